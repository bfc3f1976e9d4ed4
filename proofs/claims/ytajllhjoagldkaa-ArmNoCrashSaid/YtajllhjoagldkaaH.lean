/- Stage 6: the greatest set of states that are wanted in each of which some command surely leads into the set. -/
import Derived.Test.YtajllhjoagldkaaG
import Derived.Test.YtajllhjoagldkaaD
import Derived.Sort.LoopGhostIn
set_option linter.unusedSimpArgs false
set_option linter.unusedVariables false
namespace Go.Proofs.Ytajllhjoagldkaa
open Go.RowKit Go.Shelf Go.Maps Go.WideMaps
attribute [local go_sem] Oper.semAt_some

theorem turned_keep {w w' : World} {b : Nat} (h : w.mapTurned w' b) : Keep (fun k => k = b) w w' := (Keep.refl _ _).grown h.grown (fun k e => .inl (by injection e with e; exact e.symm))
/-- What is wanted, of the states that have been looked at. -/
def fS (g : Int → Int → Bool) (pre : List (Int × Int)) (p v : Int) : Bool := decide ((p, v) ∈ pre) && g p v
theorem fS_no {g : Int → Int → Bool} {pre : List (Int × Int)} {x : Int × Int} (h : g x.1 x.2 = false) (p v : Int) : fS g (pre ++ [x]) p v = fS g pre p v := by
  unfold fS
  by_cases e : (p, v) = x
  · subst e; rw [h, Bool.and_false, Bool.and_false]
  · simp [e]
theorem fS_yes {g : Int → Int → Bool} {pre : List (Int × Int)} {x : Int × Int} (h : g x.1 x.2 = true) (p v : Int) : fS g (pre ++ [x]) p v = (fS g pre p v || (p == x.1 && v == x.2)) := by
  unfold fS
  by_cases e : (p, v) = x
  · subst e; simp [h]
  · have : (p == x.1 && v == x.2) = false := by
      rw [Bool.and_eq_false_iff]
      by_cases e1 : p = x.1
      · right; simp only [beq_eq_false_iff_ne]; exact fun e2 => e (by rw [e1, e2])
      · left; simpa using e1
    simp [e, this]
theorem fS_all {a : Ar} {g : Int → Int → Bool} (p v : Int) : fS g (sts a) p v = (stB a p v && g p v) := by
  unfold fS
  cases e : stB a p v with
  | true => rw [decide_eq_true (mem_sts.2 e)]
  | false => rw [decide_eq_false (fun h => by rw [mem_sts, e] at h; cases h)]
theorem Inv.congr {a : Ar} {g f f' : Int → Int → Bool} (h : Inv a g f) (e : ∀ p v, f p v = f' p v) : Inv a g f' := by
  obtain rfl : f = f' := funext fun p => funext fun v => e p v
  exact h
/-- What the function has in memory; m: the heap's size at the start. -/
structure LsI (a : Ar) (m : Nat) (fnv : Value) (w : World) (nb : Nat) (f : Int → Int → Bool) (W : World) : Prop where
  bel : Below m w W
  ab : Abx a W m
  wc : W.cell? ⟨m + 1, 0, none⟩ = some fnv
  lc : W.cell? ⟨m + 3, 0, none⟩ = some (.map (some (m + 2)))
  mp : ∃ n, n ≤ nb ∧ SetM W (m + 2) n f
theorem LsI.lt {a : Ar} {m : Nat} {fnv : Value} {w : World} {nb : Nat} {f : Int → Int → Bool} {W : World} (h : LsI a m fnv w nb f W) : m + 3 < W.heap.size := by
  have := h.lc
  unfold World.cell? at this
  rcases Nat.lt_or_ge (m + 3) W.heap.size with h1 | h1
  · exact h1
  · simp [Array.getElem?_eq_none h1] at this
theorem LsI.turn {a : Ar} {m : Nat} {fnv : Value} {w : World} {nb nb' : Nat} {f f' : Int → Int → Bool} {A B : World} (h : LsI a m fnv w nb f A) (k : Keep (fun k => k = m + 2 ∨ m + 4 ≤ k) A B) (hm : ∃ n, n ≤ nb' ∧ SetM B (m + 2) n f') : LsI a m fnv w nb' f' B := by
  have hl := h.lt
  exact ⟨h.bel.trans (k.to_below (by omega) (fun k hk => by omega)), h.ab.keepK k (by omega) (by omega), (keep_cell k (by omega) (by omega)).trans h.wc, (keep_cell k (by omega) (by omega)).trans h.lc, hm⟩
theorem LsI.keep {a : Ar} {m : Nat} {fnv : Value} {w : World} {nb : Nat} {f : Int → Int → Bool} {A B : World} (h : LsI a m fnv w nb f A) (k : Keep (fun k => m + 4 ≤ k) A B) : LsI a m fnv w nb f B := by
  have hl := h.lt
  obtain ⟨n, h1, h2⟩ := h.mp
  exact h.turn (k.imp fun _ _ h => .inr h) ⟨n, h1, h2.of_block (k.block _ (by omega) (by omega))⟩
theorem LsI.mono {a : Ar} {m : Nat} {fnv : Value} {w : World} {nb nb' : Nat} {f : Int → Int → Bool} {A : World} (h : LsI a m fnv w nb f A) (hn : nb ≤ nb') : LsI a m fnv w nb' f A := by
  obtain ⟨n, h1, h2⟩ := h.mp
  exact ⟨h.bel, h.ab, h.wc, h.lc, n, by omega, h2⟩
theorem LsI.congr {a : Ar} {m : Nat} {fnv : Value} {w : World} {nb : Nat} {f f' : Int → Int → Bool} {A : World} (h : LsI a m fnv w nb f A) (e : ∀ p v, f p v = f' p v) : LsI a m fnv w nb f' A := by
  obtain rfl : f = f' := funext fun p => funext fun v => e p v
  exact h
/-- .. at the head of the loop: rs are the marks of the loops over the states, q is the box of the flag. -/
structure LtI (a : Ar) (m : Nat) (fnv : Value) (w : World) (g : Int → Int → Bool) (rs : List Nat) (q : Nat) (fw : Bool) (f : Int → Int → Bool) (W : World) : Prop where
  ls : LsI a m fnv w 697 f W
  nd : rs.Nodup
  ms : ∀ r ∈ rs, m + 4 ≤ r ∧ W.heap[r]? = some (.deferred (some []))
  bx : W.heap[q]? = some (.cells #[.bool fw] 4 (0, 0))
  ql : m + 4 ≤ q
  iv : Inv a g f
  fx : fw = false → ∀ p v, f p v = true → cans a f p v = true

/-- .. in a pass: f0 is the set at its start. -/
structure LuI (a : Ar) (m : Nat) (fnv : Value) (w : World) (g : Int → Int → Bool) (rs : List Nat) (q : Nat) (f0 : Int → Int → Bool) (pre : List (Int × Int)) (fw : Bool) (f : Int → Int → Bool) (W : World) : Prop where
  ls : LsI a m fnv w 697 f W
  bx : W.heap[q]? = some (.cells #[.bool fw] 4 (0, 0))
  ms : ∀ r ∈ rs, W.heap[r]? = some (.deferred (some []))
  iv : Inv a g f
  sub : ∀ p v, f p v = true → f0 p v = true
  fx : fw = false → (∀ p v, f p v = f0 p v) ∧ ∀ s ∈ pre, f0 s.1 s.2 = true → cans a f0 s.1 s.2 = true
  lt : fw = true → cnt a f < cnt a f0
theorem LuI.keep {a : Ar} {m : Nat} {fnv : Value} {w : World} {g f0 f : Int → Int → Bool} {rs : List Nat} {q : Nat} {pre : List (Int × Int)} {fw : Bool} {A B : World} {S : Nat → Prop} (h : LuI a m fnv w g rs q f0 pre fw f A) (k : Keep (fun k => S k ∧ m + 4 ≤ k) A B) (hq : ¬ S q) (hr : ∀ r ∈ rs, ¬ S r) : LuI a m fnv w g rs q f0 pre fw f B :=
  ⟨h.ls.keep (k.imp fun _ _ h => h.2), (k.block _ (Array.getElem?_eq_some_iff.1 h.bx).1 (fun e => hq e.1)).trans h.bx, fun r hr' => (k.block _ (Array.getElem?_eq_some_iff.1 (h.ms r hr')).1 (fun e => hr r hr' e.1)).trans (h.ms r hr'), h.iv, h.sub, h.fx, h.lt⟩
theorem LuI.more {a : Ar} {m : Nat} {fnv : Value} {w : World} {g f0 f : Int → Int → Bool} {rs : List Nat} {q : Nat} {pre : List (Int × Int)} {fw : Bool} {A : World} {x : Int × Int} (h : LuI a m fnv w g rs q f0 pre fw f A) (hx : f x.1 x.2 = true → cans a f x.1 x.2 = true) : LuI a m fnv w g rs q f0 (pre ++ [x]) fw f A := by
  refine ⟨h.ls, h.bx, h.ms, h.iv, h.sub, fun e => ⟨(h.fx e).1, fun s hs h0 => ?_⟩, h.lt⟩
  rcases List.mem_append.1 hs with hs | hs
  · exact (h.fx e).2 s hs h0
  · obtain rfl := List.mem_singleton.1 hs
    have e1 : f = f0 := funext fun p => funext fun v => (h.fx e).1 p v
    rw [← e1] at h0 ⊢
    exact hx h0
theorem LuI.take {a : Ar} {m : Nat} {fnv : Value} {w : World} {g f0 f : Int → Int → Bool} {rs : List Nat} {q : Nat} {pre : List (Int × Int)} {fw : Bool} {A B : World} {x : Int × Int} {M : Nat} (h : LuI a m fnv w g rs q f0 pre fw f A) (k : Keep (fun k => k = m + 2 ∨ k = q) A B) (hqM : q < M) (hq : m + 4 ≤ q) (hr : ∀ r ∈ rs, m + 4 ≤ r ∧ r < M) (hb : Boxed B q 4 (.bool true))
    (hm : ∃ n, n ≤ 697 ∧ SetM B (m + 2) n (fun p' v' => f p' v' && !(p' == x.1 && v' == x.2))) (hf : f x.1 x.2 = true) (hc : cans a f x.1 x.2 = false) : LuI a m fnv w g rs q f0 (pre ++ [x]) true (fun p' v' => f p' v' && !(p' == x.1 && v' == x.2)) B := by
  have hsub : ∀ p v, (fun p' v' => f p' v' && !(p' == x.1 && v' == x.2)) p v = true → f p v = true := fun p v h1 => by
    simp only [Bool.and_eq_true] at h1
    exact h1.1
  have hlt : cnt a (fun p' v' => f p' v' && !(p' == x.1 && v' == x.2)) < cnt a f := cnt_lt hsub (p := x.1) (v := x.2) (h.iv.1 _ _ hf).1 hf (by simp)
  refine ⟨h.ls.turn (k.imp fun _ _ h => by omega) hm, hb, fun r hr' => ?_, h.iv.take hc, fun p v h1 => h.sub p v (hsub p v h1), fun e => (by cases e), fun _ => Nat.lt_of_lt_of_le hlt (cnt_le h.sub)⟩
  have h1 := h.ms r hr'
  have h2 := (hr r hr').1
  refine (k.block _ (Array.getElem?_eq_some_iff.1 h1).1 ?_).trans h1
  rintro (e | e)
  · omega
  · subst e
    rw [h.bx] at h1
    cases h1

/-- What is asked of the closure: in each later world it tells whether a state is in g. -/
def Wt76  (g : Int → Int → Bool) (w : World) : Prop := ∀ w', Below w.heap.size w w' → ∀ P V, (-1000 ≤ P ∧ P ≤ 1000) → Calls Try.prog 76 #[.agg #[.int .i64 P, .int .i64 V]] w' (Bool1 (g P V) w')
set_option maxRecDepth 100000 in
set_option maxHeartbeats 8000000 in
theorem c70_76 (a : Ar)  (g : Int → Int → Bool) (w : World) (ok : a.Ok) (hW : Wt76  g w) :
    Calls Try.prog 70 #[a.v, .func (.func 76) #[] #[]] w fun e w' => ∃ b n f, e = .returned (.map (some b)) ∧ SetM w' b n f ∧ n ≤ 697 ∧ Gr a g f ∧ w.heap.size ≤ b ∧ Below w.heap.size w w' := by
  have hWh := hid hW
  have o1 := ok.l; have o2 := ok.p
  have okh := hid ok
  have hmm := @run_makeMap Try.prog
  clear hW ok
  refine callsIn_wide.1 (callsIn_of_wp_marks (F := Fence.wide) (n := 0) Try.func70 rfl trivial ?_ rfl)
  simp only [Try.ntmps70, List.size_toArray, List.length_cons, List.length_nil, Nat.reduceAdd, Nat.reduceSub, Array.replicate_succ, Array.replicate_zero, List.push_toArray, List.append_toArray, List.nil_append, List.cons_append]
  obtain ⟨m, hm⟩ : ∃ m, m = w.heap.size := ⟨_, rfl⟩
  obtain ⟨w0, hw0⟩ : ∃ w0, w0 = (((w.alloc (.cells #[.int .i64 (a.la : Nat), .int .i64 (a.sp : Nat), .int .i64 (a.fo : Nat), .int .i64 (a.sh : Nat), .int .i64 (a.ga : Nat), .int .i64 (a.sl : Nat)] 77)).alloc (.cells #[.func (.func 76) #[] #[]] 112)).alloc (.map #[] 0)).alloc (.cells #[.map (some (w.heap.size + 2))] 82) := ⟨_, rfl⟩
  have hs0 : w0.heap.size = w.heap.size + 4 := by rw [hw0]; simp
  have hI0 : LsI a w.heap.size (.func (.func 76) #[] #[]) w 0 (fun _ _ => false) w0 := by
    refine ⟨by rw [hw0]; (repeat' (first | (with_reducible exact Below.refl _ _) | (with_reducible assumption) | (with_reducible refine Below.alloc ?_ ?_ _) | (with_reducible refine Below.drew ?_) | (with_reducible refine below_drewN ?_ _) | (with_reducible refine Below.setCell ?_ ?_ _) | (with_reducible refine Below.trans ?_ (Below.mono (by with_reducible assumption) ?_)) | go_size)), ?_, ?_, ?_, ?_⟩
    · rw [hw0]; exact ((Abx.newk a w).below (B := w.heap.size + 1) (Below.alloc (Below.alloc (Below.alloc (Below.refl _ _) (by simp) _) (by simp) _) (by simp) _) (by omega))
    · have h1 := Boxed.new (w.alloc (.cells #[.int .i64 (a.la : Nat), .int .i64 (a.sp : Nat), .int .i64 (a.fo : Nat), .int .i64 (a.sh : Nat), .int .i64 (a.ga : Nat), .int .i64 (a.sl : Nat)] 77)) 112 (.func (.func 76) #[] #[])
      have h2 := ((h1.alloc (.map #[] 0)).alloc (.cells #[.map (some (w.heap.size + 2))] 82)).cell
      rw [World.size_alloc] at h2
      rw [hw0]; exact h2
    · have h1 := Boxed.new (((w.alloc (.cells #[.int .i64 (a.la : Nat), .int .i64 (a.sp : Nat), .int .i64 (a.fo : Nat), .int .i64 (a.sh : Nat), .int .i64 (a.ga : Nat), .int .i64 (a.sl : Nat)] 77)).alloc (.cells #[.func (.func 76) #[] #[]] 112)).alloc (.map #[] 0)) 82 (.map (some (w.heap.size + 2)))
      have h2 := h1.cell
      simp only [World.size_alloc] at h2
      rw [hw0]; exact h2
    · have h1 := (SetM.made ((w.alloc (.cells #[.int .i64 (a.la : Nat), .int .i64 (a.sp : Nat), .int .i64 (a.fo : Nat), .int .i64 (a.sh : Nat), .int .i64 (a.ga : Nat), .int .i64 (a.sl : Nat)] 77)).alloc (.cells #[.func (.func 76) #[] #[]] 112))).alloc (.cells #[.map (some (w.heap.size + 2))] 82)
      simp only [World.size_alloc] at h1
      rw [hw0]; exact ⟨0, Nat.le_refl _, h1⟩
  gi_wp2
  rw [← hw0]
  clear hw0 hmm
  refine rf_law3 (S := fun k => k = w.heap.size + 2) (xs := sts a) (R := fun (x : Int × Int) args => args = #[.agg #[.int .i64 x.1, .int .i64 x.2]]) (gf := 68) (la := #[a.v]) (lb := #[]) rfl (enters_of Try.func68 (by kernel_rfl) rfl) (fun _ _ h => by rw [h]; rfl) (by omega) (by omega)
    (fun W hB hs => it68 a _ W okh.out (by omega))
    (fun pre W => LsI a w.heap.size (.func (.func 76) #[] #[]) w pre.length (fS g pre) W) (fun _ _ => False) ?hI (fun _ _ _ h _ => h) (hI0.congr fun p v => by simp [fS]) ?round ?done (fun _ _ h => h.elim)
  case hI =>
    rintro s A B hi hk
    exact hi.keep (hk.imp fun _ _ h => by omega)
  case round =>
    rintro pre x W hi hpre hsz hl args rfl
    have hx := sts_small okh.out hpre
    have hlen := pre_len okh.out hpre
    rw [List.length_append, List.length_singleton] at hlen
    gi_wp2
    obtain ⟨W1, hW1⟩ : ∃ W1, W1 = W.alloc (.cells #[.int .i64 x.1, .int .i64 x.2] 25) := ⟨_, rfl⟩
    have hk1 : Keep (fun _ => False) W W1 := by rw [hW1]; exact (Keep.refl _ _).alloc _
    have hs1 : W1.heap.size = W.heap.size + 1 := by rw [hW1]; simp
    have hd1 : W1.heap[W.heap.size]? = some (.cells #[.int .i64 x.1, .int .i64 x.2] 25 (0, 0)) := by rw [hW1]; exact heap_new _ _
    rw [← hW1]
    clear hW1
    refine ⟨hk1.imp (fun _ _ h => h.elim), hi.keep (hk1.imp fun _ _ h => h.elim), fun W₂ hs2 ho hl2 hi2 => ?_⟩
    have d0 : W₂.cell? ⟨W.heap.size, 0, none⟩ = some (.int .i64 x.1) := by
      have := (ho W.heap.size (by omega)).trans hd1
      simp [World.cell?, this]
    have d1 : W₂.cell? ⟨W.heap.size, 1, none⟩ = some (.int .i64 x.2) := by
      have := (ho W.heap.size (by omega)).trans hd1
      simp [World.cell?, this]
    have hb2 := hi2.bel
    have hwc := hi2.wc
    have hz2 : w.heap.size + 7 ≤ W₂.heap.size := by omega
    have hzx : W.heap.size < W₂.heap.size := by omega
    have hi2h := hid hi2
    clear hi hk1 hs1 hd1 ho hl hs2 hi2
    have hxs : (-1000 ≤ x.1 ∧ x.1 ≤ 1000) := by omega
    have hsx : Sm x.1 ∧ Sm x.2 := ⟨⟨by omega, by omega⟩, ⟨by omega, by omega⟩⟩
    cases hg : g x.1 x.2 with
    | false =>
      have hgh := hid hg
      clear hg
      gi_wp2_with (refine ⟨trivial, rfl, ?_⟩; gi_at_call 76; refine (CallsIn.inRound _ (callsIn_wide.2 (hWh.out W₂ hb2 x.1 x.2 hxs))).mono ?_; rw [hgh.out]; rintro e w1 ⟨rfl, hB1⟩)
      refine ⟨Keep.of_below hB1 (Nat.le_refl _), ?_⟩
      have hkk : Keep (fun _ => False) W₂ w1 := Keep.of_below hB1 (Nat.le_refl _)
      refine ((hi2h.out.keep (hkk.imp fun _ _ h => h.elim)).mono (by simp)).congr fun p v => (fS_no hgh.out p v).symm
    | true =>
      have hgh := hid hg
      clear hg
      gi_wp2_with (refine ⟨trivial, rfl, ?_⟩; gi_at_call 76; refine (CallsIn.inRound _ (callsIn_wide.2 (hWh.out W₂ hb2 x.1 x.2 hxs))).mono ?_; rw [hgh.out]; rintro e w1 ⟨rfl, hB1⟩; have hs1 := hB1.size; have e0 := (hB1.cell (p := ⟨W.heap.size, 0, none⟩) hzx).trans d0; have e1 := (hB1.cell (p := ⟨W.heap.size, 1, none⟩) hzx).trans d1; have hi3 := hid (hi2h.out.keep (Keep.of_below hB1 (Nat.le_refl _))); have e2 := hi3.out.lc; obtain ⟨n3, hn3, hm3⟩ := hi3.out.mp; obtain ⟨w2, hr2, hm2, ht2⟩ := hm3.store hsx.1 hsx.2 (by omega); have hm2h := hid hm2; have ht2h := hid ht2; clear hm2 ht2 hm3 d0 d1 hwc)
      have hkt : Keep (fun k => k = w.heap.size + 2) w1 w2 := turned_keep ht2h.out
      have hkk : Keep (fun k => k = w.heap.size + 2) W₂ w2 := (Keep.of_below hB1 (Nat.le_refl _)).trans hkt
      refine ⟨hkk, ?_⟩
      exact (hi3.out.turn (hkt.imp fun _ _ h => .inl h) ⟨n3 + 1, by simp; omega, hm2h.out⟩).congr fun p v => (fS_yes hgh.out p v).symm
  case done =>
    rintro W hi hK hsz
    have hs1 : w.heap.size + 6 ≤ W.heap.size := by omega
    obtain ⟨f0, hf0⟩ : ∃ f0, f0 = fS g (sts a) := ⟨_, rfl⟩
    have hinv : Inv a g f0 := by
      have := Inv.start a g
      rw [hf0]
      exact this.congr fun p v => (fS_all p v).symm
    rw [← hf0] at hi
    have hih := hid (hi.mono (show (sts a).length ≤ 697 by have := pre_len okh.out (List.prefix_refl (sts a)); omega))
    clear hi hf0
    gi_wp2
    obtain ⟨q, hq⟩ : ∃ q, q = W.heap.size := ⟨_, rfl⟩
    obtain ⟨wl, hwl⟩ : ∃ wl, wl = W.alloc (.cells #[.bool true] 4) := ⟨_, rfl⟩
    have hkl : Keep (fun _ => False) W wl := by rw [hwl]; exact (Keep.refl _ _).alloc _
    have hql : wl.heap[q]? = some (.cells #[.bool true] 4 (0, 0)) := by rw [hwl, hq]; exact heap_new _ _
    rw [← hwl, ← hq]
    have hKl : wl.heap[w0.heap.size]? = some (.deferred (some [])) := (hkl.block _ (Array.getElem?_eq_some_iff.1 hK).1 id).trans hK
    have hil := hid (hih.out.keep (hkl.imp fun _ _ h => h.elim))
    have hqs : w.heap.size + 4 ≤ q := by omega
    clear hwl hK hih hkl
    refine wpIn_loop_ghost (fun gk ac wr => ∃ (z4 z6 z8 z9 z10 z11 z12 z13 z14 z15 z16 z17 z18 z19 z20 z21 z22 z23 z24 z25 z26 z27 z28 z29 z30 z31 z32 z33 z34 z35 z36 z37 z38 z39 z40 z41 : Value) (rs : List Nat) (q : Nat) (fw : Bool) (f : Int → Int → Bool), ac = { tmps := #[a.v, .func (.func 76) #[] #[], .pointer (some ⟨w.heap.size, 0, none⟩), .pointer (some ⟨w.heap.size + 1, 0, none⟩), z4, .pointer (some ⟨w.heap.size + 3, 0, none⟩), z6, .pointer (some ⟨q, 0, none⟩), z8, z9, z10, z11, z12, z13, z14, z15, z16, z17, z18, z19, z20, z21, z22, z23, z24, z25, z26, z27, z28, z29, z30, z31, z32, z33, z34, z35, z36, z37, z38, z39, z40, z41], defers := mks rs } ∧ gk = 2 * cnt a f + (if fw then 1 else 0) ∧ LtI a w.heap.size (.func (.func 76) #[] #[]) w g rs q fw f wr)
      (2 * cnt a f0 + 1) ⟨_, _, _, _, _, _, _, _, _, _, _, _, _, _, _, _, _, _, _, _, _, _, _, _, _, _, _, _, _, _, _, _, _, _, _, _, [w0.heap.size], q, true, f0, rfl, rfl, ⟨hil.out, by simp, fun r hr => by rw [List.mem_singleton.1 hr]; exact ⟨by omega, hKl⟩, hql, hqs, hinv, fun h => by cases h⟩⟩ ?_
    clear hil hKl hql hqs hq hinv
    rintro gk ac wr ⟨z4, z6, z8, z9, z10, z11, z12, z13, z14, z15, z16, z17, z18, z19, z20, z21, z22, z23, z24, z25, z26, z27, z28, z29, z30, z31, z32, z33, z34, z35, z36, z37, z38, z39, z40, z41, rs, q, fw, f, rfl, hgk, hI⟩
    have hlt := hI.ls.lt
    have hql := hI.ql
    have hqb := hI.bx
    have hqc : wr.cell? ⟨q, 0, none⟩ = some (.bool fw) := by simp [World.cell?, hqb]
    have hqf : wr.frozen? ⟨q, 0, none⟩ = false := by simp [World.frozen?, hqb]
    have hqs : q < wr.heap.size := (Array.getElem?_eq_some_iff.1 hqb).1
    have hIh := hid hI
    clear hqb hI
    cases fw with
    | false =>
      have e2 := hIh.out.ls.lc
      gi_wp2
      refine leaves_marks rs wr hIh.out.nd (fun r hr => (hIh.out.ms r hr).2) (fun W' hk => ?_)
      refine ⟨.map (some (w.heap.size + 2)), by simp [results, Try.results70, go_sem], ?_⟩
      have hkk : Keep (fun k => w.heap.size + 4 ≤ k) wr W' := hk.imp fun r _ hr => (hIh.out.ms r hr).1
      have h3 := hIh.out.ls.keep hkk
      obtain ⟨n, hn, hm⟩ := h3.mp
      exact ⟨_, n, f, rfl, hm, hn, hIh.out.iv.done (hIh.out.fx rfl), by omega, h3.bel⟩
    | true =>
      have y := hIh.out.ls.ab
      obtain ⟨y0, y1, y2, y3, y4, y5⟩ := y.all
      clear y
      gi_wp2
      obtain ⟨w1, hw1⟩ : ∃ w1, w1 = wr.setCell ⟨q, 0, none⟩ (.bool false) := ⟨_, rfl⟩
      have hkw : Keep (fun k => k = q) wr w1 := by rw [hw1]; exact (Keep.refl (fun k => k = q) wr).setCell (p := ⟨q, 0, none⟩) (.inl rfl) _
      have hqw : w1.heap[q]? = some (.cells #[.bool false] 4 (0, 0)) := by rw [hw1]; exact Boxed.set (.bool false) hIh.out.bx
      have hsw : w1.heap.size = wr.heap.size := by rw [hw1]; simp [World.setCell]
      rw [← hw1]
      clear hw1
      have hlu : LuI a w.heap.size (.func (.func 76) #[] #[]) w g rs q f [] false f w1 := by
        refine ⟨hIh.out.ls.keep (hkw.imp fun _ _ h => by omega), hqw, fun r hr => ?_, hIh.out.iv, fun p v h => h, fun _ => ⟨fun p v => rfl, fun s hs => by cases hs⟩, fun h => by cases h⟩
        have hr2 := (hIh.out.ms r hr).2
        refine (hkw.block r (Array.getElem?_eq_some_iff.1 hr2).1 ?_).trans hr2
        rintro rfl
        rw [hIh.out.bx] at hr2
        cases hr2
      have hqm : q < w1.heap.size := by omega
      have hrm : ∀ r ∈ rs, w.heap.size + 4 ≤ r ∧ r < w1.heap.size := fun r hr => ⟨(hIh.out.ms r hr).1, by rw [hsw]; exact (Array.getElem?_eq_some_iff.1 (hIh.out.ms r hr).2).1⟩
      have hnd := hid hIh.out.nd
      have hm3 : w.heap.size + 3 < w1.heap.size := by omega
      clear hqc hqf hqs hkw hqw hsw y0 y1 y2 y3 y4 y5 hIh hlt
      refine rf_law3 (S := fun k => k = w.heap.size + 2 ∨ k = q) (xs := sts a) (R := fun (x : Int × Int) args => args = #[.agg #[.int .i64 x.1, .int .i64 x.2]]) (gf := 68) (la := #[a.v]) (lb := #[]) rfl (enters_of Try.func68 (by kernel_rfl) rfl) (fun _ _ h => by rw [h]; rfl) (by omega) (by omega)
        (fun W hB hs => it68 a _ W okh.out (by omega))
        (fun pre W => ∃ fw' f', LuI a w.heap.size (.func (.func 76) #[] #[]) w g rs q f pre fw' f' W) (fun _ _ => False) ?hI2 (fun _ _ _ h _ => h) ⟨_, _, hlu⟩ ?round2 ?done2 (fun _ _ h => h.elim)
      case hI2 =>
        rintro s A B ⟨fw', f', hi⟩ hk
        exact ⟨fw', f', hi.keep (S := fun k => k = w1.heap.size + 1) (hk.imp fun _ _ h => ⟨h, by omega⟩) (fun h => by omega) (fun r hr h => by have := (hrm r hr).2; omega)⟩
      case round2 =>
        rintro pre x W ⟨fw', f', hi⟩ hpre hsz hl args rfl
        have hx := sts_small okh.out hpre
        clear hlu
        gi_wp2
        obtain ⟨W1, hW1⟩ : ∃ W1, W1 = W.alloc (.cells #[.int .i64 x.1, .int .i64 x.2] 25) := ⟨_, rfl⟩
        have hk1 : Keep (fun _ => False) W W1 := by rw [hW1]; exact (Keep.refl _ _).alloc _
        have hs1 : W1.heap.size = W.heap.size + 1 := by rw [hW1]; simp
        have hd1 : W1.heap[W.heap.size]? = some (.cells #[.int .i64 x.1, .int .i64 x.2] 25 (0, 0)) := by rw [hW1]; exact heap_new _ _
        rw [← hW1]
        clear hW1
        refine ⟨hk1.imp (fun _ _ h => h.elim), ⟨fw', f', hi.keep (S := fun _ => False) (hk1.imp fun _ _ h => h.elim) id (fun _ _ => id)⟩, fun W₂ hs2 ho hl2 hi2 => ?_⟩
        have d0 : W₂.cell? ⟨W.heap.size, 0, none⟩ = some (.int .i64 x.1) := by
          have := (ho W.heap.size (by omega)).trans hd1
          simp [World.cell?, this]
        have d1 : W₂.cell? ⟨W.heap.size, 1, none⟩ = some (.int .i64 x.2) := by
          have := (ho W.heap.size (by omega)).trans hd1
          simp [World.cell?, this]
        have hzx : W.heap.size < W₂.heap.size := by omega
        have hzm : w1.heap.size + 3 ≤ W₂.heap.size := by omega
        clear hi hk1 hs1 hd1 ho hl hs2
        obtain ⟨fw2, f2, hi2⟩ := hi2
        have hlc := hi2.ls.lc
        obtain ⟨n3, hn3, hm3s⟩ := hi2.ls.mp
        have hsx : Sm x.1 ∧ Sm x.2 := ⟨⟨by omega, by omega⟩, ⟨by omega, by omega⟩⟩
        have hi2h := hid hi2
        have hm3h := hid hm3s
        clear hi2 hm3s
        cases hf : f2 x.1 x.2 with
        | false =>
          have hfh := hid hf
          clear hf
          gi_wp2_with (refine ⟨trivial, rfl, ?_⟩; gi_at_call 69; refine (CallsIn.inRound _ (callsIn_wide.2 (c69 x.1 x.2 _ hm3h.out hsx.1 hsx.2))).mono ?_; rw [hfh.out]; rintro e w5 ⟨rfl, hB5⟩)
          refine ⟨Keep.of_below hB5 (Nat.le_refl _), fw2, f2, ?_⟩
          have hkk : Keep (fun _ => False) W₂ w5 := Keep.of_below hB5 (Nat.le_refl _)
          exact (hi2h.out.keep (S := fun _ => False) (hkk.imp fun _ _ h => h.elim) id (fun _ _ => id)).more (fun h => by rw [hfh.out] at h; cases h)
        | true =>
          have hfh := hid hf
          clear hf
          cases hcn : (low a f2 x.1 x.2).isSome with
          | true =>
            have hch := hid hcn
            clear hcn
            gi_wp2_with (first
              | (refine ⟨trivial, rfl, ?_⟩; gi_at_call 69; refine (CallsIn.inRound _ (callsIn_wide.2 (c69 x.1 x.2 _ hm3h.out hsx.1 hsx.2))).mono ?_; rw [hfh.out]; rintro e w5 ⟨rfl, hB5⟩; have hs5 := hB5.size; have hk5 : Keep (fun _ => False) W₂ w5 := Keep.of_below hB5 (Nat.le_refl _); have hi5 := hid (hi2h.out.keep (S := fun _ => False) (hk5.imp fun _ _ h => h.elim) id (fun _ _ => id)); have e0 := (hB5.cell (p := ⟨W.heap.size, 0, none⟩) hzx).trans d0; have e1 := (hB5.cell (p := ⟨W.heap.size, 1, none⟩) hzx).trans d1; have e2 := hi5.out.ls.lc; obtain ⟨y0, y1, y2, y3, y4, y5⟩ := hi5.out.ls.ab.all; have hm5 := hid (hm3h.out.below hB5 hm3h.out.lt); clear d0 d1 hlc)
              | (refine ⟨trivial, rfl, ?_⟩; gi_at_call 74; refine (CallsIn.inRound _ (callsIn_wide.2 (c74_69 a (w.heap.size + 2) f2 x.1 x.2 _ okh.out ⟨by omega, by omega⟩ ⟨by omega, by omega⟩ (fun w' hb P V hP hV => c69 P V w' (hm5.out.below hb hm5.out.lt) hP hV)))).mono ?_; rw [hch.out]; rintro e w6 ⟨rfl, hB6⟩))
            have hkk : Keep (fun _ => False) W₂ w6 := hk5.trans (Keep.of_below hB6 (Nat.le_refl _))
            refine ⟨hkk.imp fun _ _ h => h.elim, fw2, f2, ?_⟩
            exact (hi2h.out.keep (S := fun _ => False) (hkk.imp fun _ _ h => h.elim) id (fun _ _ => id)).more (fun _ => hch.out)
          | false =>
            have hch := hid hcn
            clear hcn
            gi_wp2_with (first
              | (refine ⟨trivial, rfl, ?_⟩; gi_at_call 69; refine (CallsIn.inRound _ (callsIn_wide.2 (c69 x.1 x.2 _ hm3h.out hsx.1 hsx.2))).mono ?_; rw [hfh.out]; rintro e w5 ⟨rfl, hB5⟩; have hs5 := hB5.size; have hk5 : Keep (fun _ => False) W₂ w5 := Keep.of_below hB5 (Nat.le_refl _); have hi5 := hid (hi2h.out.keep (S := fun _ => False) (hk5.imp fun _ _ h => h.elim) id (fun _ _ => id)); have e0 := (hB5.cell (p := ⟨W.heap.size, 0, none⟩) hzx).trans d0; have e1 := (hB5.cell (p := ⟨W.heap.size, 1, none⟩) hzx).trans d1; have e2 := hi5.out.ls.lc; obtain ⟨y0, y1, y2, y3, y4, y5⟩ := hi5.out.ls.ab.all; have hm5 := hid (hm3h.out.below hB5 hm3h.out.lt); clear d0 d1 hlc)
              | (refine ⟨trivial, rfl, ?_⟩; gi_at_call 74; refine (CallsIn.inRound _ (callsIn_wide.2 (c74_69 a (w.heap.size + 2) f2 x.1 x.2 _ okh.out ⟨by omega, by omega⟩ ⟨by omega, by omega⟩ (fun w' hb P V hP hV => c69 P V w' (hm5.out.below hb hm5.out.lt) hP hV)))).mono ?_; rw [hch.out]; rintro e w6 ⟨rfl, hB6⟩; have hs6 := hB6.size; have hk6 : Keep (fun _ => False) W₂ w6 := hk5.trans (Keep.of_below hB6 (Nat.le_refl _)); have hi6 := hid (hi2h.out.keep (S := fun _ => False) (hk6.imp fun _ _ h => h.elim) id (fun _ _ => id)); replace e0 := (hB6.cell (p := ⟨W.heap.size, 0, none⟩) (by show W.heap.size < _; omega)).trans e0; replace e1 := (hB6.cell (p := ⟨W.heap.size, 1, none⟩) (by show W.heap.size < _; omega)).trans e1; replace e2 := hi6.out.ls.lc; have hm6 := hm5.out.below hB6 hm5.out.lt; obtain ⟨w7, hr7, hm7, ht7⟩ := hm6.drop hsx.1 hsx.2 0; have hm7h := hid hm7; have ht7h := hid (turned_keep ht7); have hq7 := (ht7h.out.block q (by omega) (by omega)).trans hi6.out.bx; have e3 : w7.cell? ⟨q, 0, none⟩ = some (.bool fw2) := (by simp [World.cell?, hq7]); have e4 : w7.frozen? ⟨q, 0, none⟩ = false := (by simp [World.frozen?, hq7]); have hq7h := hid hq7; clear hm7 ht7 hm6 hq7 y0 y1 y2 y3 y4 y5))
            have hk7 : Keep (fun k => k = w.heap.size + 2) W₂ w7 := (hk6.imp fun _ _ h => h.elim).trans ht7h.out
            have hk8 : Keep (fun k => k = w.heap.size + 2 ∨ k = q) W₂ (w7.setCell ⟨q, 0, none⟩ (.bool true)) := (hk7.imp fun _ _ h => .inl h).setCell (p := ⟨q, 0, none⟩) (.inl (.inr rfl)) _
            refine ⟨hk8, true, fun p' v' => f2 p' v' && !(p' == x.1 && v' == x.2), ?_⟩
            refine hi2h.out.take hk8 (by omega) hql hrm (Boxed.set (.bool true) hq7h.out) ⟨n3, hn3, hm7h.out.of_block (Below.heap_setCell _ _ _ _ (by show ¬ w.heap.size + 2 = q; omega))⟩ hfh.out hch.out
      case done2 =>
        rintro W ⟨fw', f', hi⟩ hK hsz
        clear hlu
        have hqb := hi.bx
        have hqc : W.cell? ⟨q, 0, none⟩ = some (.bool fw') := by simp [World.cell?, hqb]
        have hih := hid hi
        clear hqb hi
        gi_wp2
        obtain ⟨w3, hw3⟩ : ∃ w3, w3 = W.alloc (.cells #[.bool fw'] 4) := ⟨_, rfl⟩
        have hk3 : Keep (fun _ => False) W w3 := by rw [hw3]; exact (Keep.refl _ _).alloc _
        have hq3 : w3.heap[W.heap.size]? = some (.cells #[.bool fw'] 4 (0, 0)) := by rw [hw3]; exact heap_new _ _
        rw [← hw3]
        clear hw3
        have hgk2 : (2 * cnt a f' + (if fw' then 1 else 0)) < gk := by
          rw [hgk]
          cases fw' with
          | true => have := hih.out.lt rfl; simp; omega
          | false => have := cnt_le (a := a) hih.out.sub; simp; omega
        refine ⟨_, hgk2, _, _, _, _, _, _, _, _, _, _, _, _, _, _, _, _, _, _, _, _, _, _, _, _, _, _, _, _, _, _, _, _, _, _, _, _, w1.heap.size :: rs, W.heap.size, fw', f', rfl, rfl, ?_⟩
        refine ⟨hih.out.ls.keep (hk3.imp fun _ _ h => h.elim), List.nodup_cons.2 ⟨fun h => by have := (hrm _ h).2; omega, hnd.out⟩, fun r hr => ?_, hq3, by omega, hih.out.iv, fun h p v hp => ?_⟩
        · rcases List.mem_cons.1 hr with rfl | hr
          · exact ⟨by omega, (hk3.block _ (by omega) id).trans hK⟩
          · have := hih.out.ms r hr
            exact ⟨(hrm r hr).1, (hk3.block _ (Array.getElem?_eq_some_iff.1 this).1 id).trans this⟩
        · obtain ⟨h1, h2⟩ := hih.out.fx h
          have hp0 : f p v = true := by rw [← h1]; exact hp
          have := h2 (p, v) (mem_sts.2 (hih.out.iv.1 p v hp).1) hp0
          rwa [show f' = f from funext fun p => funext fun v => h1 p v]
end Go.Proofs.Ytajllhjoagldkaa
