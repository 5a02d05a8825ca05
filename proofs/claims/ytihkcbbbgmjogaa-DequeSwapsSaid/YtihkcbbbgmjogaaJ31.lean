import Derived.Test.YtihkcbbbgmjogaaJ29
import Derived.Test.YtihkcbbbgmjogaaJ30
import Derived.Laws.MakeOwn
import Derived.Deep.Cut
/-
  DequeSwaps: the row of loaded moves, the trace's cells, bounds.
-/
namespace Go.Proofs.Ytihkcbbbgmjogaa.Dm
open Go.RowKit Go.Shelf Mr Me Ma Gm Dq Cn
set_option linter.unusedVariables false
set_option linter.unusedSimpArgs false
set_option maxRecDepth 100000
theorem info_i : ∃ i, Try.prog.info? 3 = some i ∧ i.zero = some (.int .i64 0) ∧ i.size = 1 ∧ i.bytes = 8 := info_of (by kernel_rfl)
def rowI (nt : Nat) (f : Nat → Int) : List Int := (List.range nt).map f
theorem rowI_get {nt : Nat} {f : Nat → Int} {k : Nat} (h : k < nt) : (rowI nt f)[k]? = some (f k) := by simp [rowI, h]
theorem rowI_set (nt : Nat) (f : Nat → Int) (k : Nat) (x : Int) : (rowI nt f).set k x = rowI nt (upd f k x) := by
  apply List.ext_getElem?
  intro i
  by_cases hi : i < nt
  · by_cases h : k = i
    · subst h; rw [List.getElem?_set_self (by simpa [rowI] using hi), rowI_get hi, upd_same]
    · rw [List.getElem?_set_ne h, rowI_get hi, rowI_get hi, upd_other _ _ _ _ (fun e => h e.symm)]
  · rw [List.getElem?_eq_none (by simp [rowI]; omega), List.getElem?_eq_none (by simp [rowI]; omega)]
theorem intsV_set (l : List Int) (k : Nat) (x : Int) : (intsV l).set k (.int .i64 x) = intsV (l.set k x) := by simp [intsV, List.map_set]
/-- The row. -/
structure Rw (W w : World) (B : Nat) (l : List Int) : Prop where
  bel : Below W.heap.size W w
  up : W.heap.size ≤ B
  blk : w.heap[B]? = some (.cells (intsV l).toArray 3 (0, 0))
theorem Rw.cell {W w : World} {B : Nat} {l : List Int} (h : Rw W w B l) {k : Nat} {x : Int} (hx : l[k]? = some x) : w.cell? ⟨B, k, none⟩ = some (.int .i64 x) ∧ w.frozen? ⟨B, k, none⟩ = false := by
  refine ⟨?_, by simp [World.frozen?, h.blk]⟩
  rw [cell_blk h.blk]
  simp [intsV, hx]
theorem Rw.put {W w : World} {B : Nat} {l : List Int} (h : Rw W w B l) (k : Nat) (x : Int) : Rw W (w.setCell ⟨B, k, none⟩ (.int .i64 x)) B (l.set k x) := by
  refine ⟨h.bel.setCell (p := ⟨B, k, none⟩) h.up _, h.up, ?_⟩
  rw [setBlk h.blk, ← intsV_set]; simp
theorem Rw.below {W w w' : World} {B : Nat} {l : List Int} (h : Rw W w B l) (hB : Below w.heap.size w w') : Rw W w' B l :=
  ⟨h.bel.trans (hB.mono h.bel.size), h.up, (hB.block _ (Array.getElem?_eq_some_iff.1 h.blk).1).trans h.blk⟩
theorem madeI (n : Nat) : madeCells #[.int .i64 0] n = (intsV (rowI n (fun _ => 0))).toArray := by
  apply Array.ext_getElem?
  intro i
  by_cases hi : i < n
  · simp only [madeCells, Array.getElem?_map]
    rw [Array.getElem?_range]
    simp [hi, intsV, rowI, Nat.mod_one]
  · rw [Array.getElem?_eq_none (by rw [size_madeCells]; omega), Array.getElem?_eq_none (by simp [intsV, rowI]; omega)]
theorem makeI (W : World) (n : Nat) (hn : n ≤ 100000) : (Instr.makeSlice 46 (.int .i64 (n : Int)) (.int .i64 (n : Int))).run Try.prog W = .ok (.slice (some ⟨W.heap.size, 0, none⟩) n n) (W.alloc (.cells (intsV (rowI n (fun _ => 0))).toArray 3)) := by
  obtain ⟨i0, hi, hz0, hz1, hz2⟩ := info_i
  have h := run_make (P := Try.prog) W 46 3 i0 _ Try.underlying46 hi hz0 .i64 .i64 n n (by omega) (Int.le_refl _) (by rw [hz2]; omega) (by omega)
  rw [hz1, Nat.mul_one] at h
  have e : (n : Int).toNat = n := Int.toNat_natCast n
  rw [e] at h
  have e2 := madeI n
  simp only [Value.cells] at h
  rw [e2] at h
  exact h
/-- An access's seven cells. -/
theorem ac_at {W : World} {S : Nat → Prop} {g n cap : Nat} {l : List Acc} (h : Has W S 59 7 (.slice (some ⟨g, 0, none⟩) n cap) n (lgc l)) {j : Nat} {a : Acc} (ha : l[j]? = some a) :
    W.cell? ⟨g, j * 7, none⟩ = some (.int .i64 a.mv) ∧ W.cell? ⟨g, j * 7 + 1, none⟩ = some (.int .i64 a.th) ∧ W.cell? ⟨g, j * 7 + 2, none⟩ = some (.int .i64 a.kd) ∧ W.cell? ⟨g, j * 7 + 3, none⟩ = some (.int .i64 a.ad) ∧ W.cell? ⟨g, j * 7 + 4, none⟩ = some (.int .u64 a.old) ∧ W.cell? ⟨g, j * 7 + 5, none⟩ = some (.int .u64 a.new) ∧ W.cell? ⟨g, j * 7 + 6, none⟩ = some (.int .u64 a.saw) := by
  have hce : ∀ t (_ : t < 7) u, a.cells[t]? = some u → W.cell? ⟨g, j * 7 + t, none⟩ = some u := fun t ht u hu => h.cells (g := g) rfl (j * 7 + t) u (by rw [lgc, flat_get (f := Acc.cells) (m := 7) (fun _ => rfl) l j t a ha ht]; exact hu)
  exact ⟨hce 0 (by decide) _ rfl, hce 1 (by decide) _ rfl, hce 2 (by decide) _ rfl, hce 3 (by decide) _ rfl, hce 4 (by decide) _ rfl, hce 5 (by decide) _ rfl, hce 6 (by decide) _ rfl⟩
theorem swS_step {lg : List Acc} {i : Nat} {a : Acc} (h : lg[i]? = some a) : swS (lg.take (i + 1)) = swN (swS (lg.take i)) a := by
  rw [take_succ_of h, swS_snoc]
theorem swS_b (lg : List Acc) : ∀ i, i ≤ lg.length → (swS (lg.take i)).k = i ∧ 0 ≤ (swS (lg.take i)).top ∧ (swS (lg.take i)).top ≤ (i : Int) := by
  intro i
  induction i with
  | zero => intro _; simp [swS, sw0]
  | succ i ih =>
    intro h
    obtain ⟨h1, h2, h3⟩ := ih (by omega)
    obtain ⟨a, ha⟩ : ∃ a, lg[i]? = some a := ⟨_, List.getElem?_eq_getElem (by omega)⟩
    rw [swS_step ha]
    refine ⟨by simp [swN, h1], ?_, ?_⟩ <;> simp only [swN] <;> split <;> omega
/-- owned where there is no call. -/
theorem owned_nil {w : World} {p1 p2 p3 p4 : Option Addr} {c1 n2 c2 n3 c3 n4 c4 : Nat} (m : Int) (cls : List Cl) :
    Calls Try.prog 16 #[.agg #[.slice p1 0 c1, .slice p2 n2 c2, .slice p3 n3 c3, .slice p4 n4 c4], .int .i64 m] w (OwP cls m w) := by
  have fin : Hid (∀ o, Below w.heap.size w (w.alloc o)) := Mr.hid (fun o => (Below.refl _ _).alloc (Nat.le_refl _) _)
  go_enter Try.func16, Try.ntmps16
  go_wp2
  go_loopg [5] 0 (fun k s wr => s = .int .i64 0 ∧ wr = w.alloc (.cells #[.slice p1 0 c1, .slice p2 n2 c2, .slice p3 n3 c3, .slice p4 n4 c4] 43 (0, 0)))
  case atStart => exact ⟨rfl, rfl⟩
  case round =>
    obtain ⟨rfl, rfl⟩ := hrel
    go_wp2
    go_ret
    exact owp false (by simp) (fun h => (by cases h)) (fin.out _)
theorem owned_all {w : World} {S : Nat → Prop} {p1 p2 p3 p4 : Option Addr} {n1 c1 n2 c2 n3 c3 n4 c4 : Nat} (cls : List Cl) (hh : Has w S 53 9 (.slice p1 n1 c1) cls.length (clc cls)) (hn : cls.length ≤ 100000) (m : Int) :
    Calls Try.prog 16 #[.agg #[.slice p1 n1 c1, .slice p2 n2 c2, .slice p3 n3 c3, .slice p4 n4 c4], .int .i64 m] w (OwP cls m w) := by
  by_cases h0 : 0 < cls.length
  · obtain ⟨g, cap, e, h1, h2, h3⟩ := hh.there h0
    cases e
    exact owned_any cls hh h2 hn m
  · obtain ⟨p, q, e, h1⟩ := hh.form
    cases e
    obtain e0 : cls.length = 0 := by omega
    rw [e0]
    exact owned_nil m cls
end Go.Proofs.Ytihkcbbbgmjogaa.Dm
/-
  DequeSwaps: the walk.
-/
namespace Go.Proofs.Ytihkcbbbgmjogaa.Dm
open Go.RowKit Go.Shelf Mr Me Ma Gm Dq Cn
set_option linter.unusedVariables false
set_option linter.unusedSimpArgs false
set_option maxRecDepth 100000
set_option maxHeartbeats 4000000 in
/-- No deque, or too many moves. -/
theorem swaps_not (w : World) (th rm : Int) (am : Option Addr) (nm cm : Nat) (h : (dqB th rm && decide ((nm : Int) ≤ 65536)) = false) :
    Calls Try.prog 5 #[.agg #[.int .i64 th, .int .i64 rm], .slice am nm cm] w fun e w' => e = .returned (.bool true) ∧ Below w.heap.size w w' := by
  have FT := fun w => fits_any th rm am nm cm w
  rw [h] at FT
  replace FT := Mr.hid FT
  have AW := Mr.hid (fun w => awake_any w)
  have B0 := Mr.hid ((Below.refl w.heap.size w).alloc (Nat.le_refl _) (.cells #[.int .i64 th, .int .i64 rm] 23 (0, 0)))
  clear h
  go_enter Try.func5, Try.ntmps5
  go_wp2_with (first | (go_at_call 6; refine (FT.out _).mono ?_; clear FT; rintro e w1 ⟨rfl, hB⟩; have hB1 := Mr.hid (B0.out.trans (hB.mono B0.out.size)); clear hB B0) | (go_at_call 7; refine (AW.out _).mono ?_; clear AW; rintro e w2 ⟨rfl, hB⟩; have hB2 := Mr.hid (hB1.out.trans (hB.mono hB1.out.size)); clear hB hB1))
  go_ret
  exact ⟨rfl, hB2.out⟩
/-- What stands between two rounds. -/
def SwR (W3 : World) (nt L : Nat) (lg : List Acc) (i : Nat) (s7 s9 s10 : Value) (W : World) : Prop :=
  s7 = .int .u64 (swS (lg.take i)).top ∧ s9 = .int .u64 (swS (lg.take i)).down ∧ s10 = .int .i64 (swS (lg.take i)).last ∧ Rw W3 W L (rowI nt (swS (lg.take i)).ld)
theorem SwR.next {W3 W : World} {nt L i : Nat} {lg : List Acc} {a : Acc} {s : Sw} (ha : lg[i]? = some a) (hs : swS (lg.take i) = s) {t d l : Int} {f : Nat → Int}
    (h1 : (swN s a).top = t) (h2 : (swN s a).down = d) (h3 : (swN s a).last = l) (h4 : (swN s a).ld = f) (h : Rw W3 W L (rowI nt f)) : SwR W3 nt L lg (i + 1) (.int .u64 t) (.int .u64 d) (.int .i64 l) W := by
  unfold SwR
  rw [swS_step ha, hs, h1, h2, h3, h4]
  exact ⟨rfl, rfl, rfl, h⟩
theorem u64x (x : Int) (h1 : 0 ≤ x) (h2 : x ≤ 1000000) : IntKind.u64.wrap x = x := by show x % 18446744073709551616 = x; omega
def runO (v1 v2 v3 v4 : Value) : Obj := .cells #[v1, v2, v3, v4] 43 (0, 0)
/-- What the law has in hand ahead of the loop: its run's box, the deque's box, the row. -/
structure Gd (w W3 : World) (nt r B : Nat) (p1 p2 p3 p4 : Option Addr) (n1 q1 n2 q2 n3 q3 n4 q4 : Nat) (cls : List Cl) (lg : List Acc) : Prop where
  bel : Below w.heap.size w W3
  d : W3.heap[w.heap.size]? = some (dBox nt r)
  rn : W3.heap[B]? = some (runO (.slice p1 n1 q1) (.slice p2 n2 q2) (.slice p3 n3 q3) (.slice p4 n4 q4))
  h1 : Has W3 (fun k => w.heap.size ≤ k) 53 9 (.slice p1 n1 q1) cls.length (clc cls)
  h2 : Has W3 (fun k => w.heap.size ≤ k) 59 7 (.slice p2 n2 q2) lg.length (lgc lg)
  e2 : n2 = lg.length
section
variable {w W3 W : World} {nt r B L : Nat} {p1 p2 p3 p4 : Option Addr} {n1 q1 n2 q2 n3 q3 n4 q4 : Nat} {cls : List Cl} {lg : List Acc} {l : List Int}
theorem Gd.cells (h : Gd w W3 nt r B p1 p2 p3 p4 n1 q1 n2 q2 n3 q3 n4 q4 cls lg) (hR : Rw W3 W L l) : W.cell? ⟨w.heap.size, 0, none⟩ = some (.int .i64 (nt : Int)) ∧ W.cell? ⟨B, 0, none⟩ = some (.slice p1 n1 q1) ∧ W.cell? ⟨B, 1, none⟩ = some (.slice p2 n2 q2) ∧ W.cell? ⟨B, 2, none⟩ = some (.slice p3 n3 q3) ∧ W.cell? ⟨B, 3, none⟩ = some (.slice p4 n4 q4) := by
  have l1 := (Array.getElem?_eq_some_iff.1 h.d).1
  have l2 := (Array.getElem?_eq_some_iff.1 h.rn).1
  have b1 := (hR.bel.block _ l1).trans h.d
  have b2 := (hR.bel.block _ l2).trans h.rn
  exact ⟨cell_at b1 0, cell_at b2 0, cell_at b2 1, cell_at b2 2, cell_at b2 3⟩
theorem Gd.acc (h : Gd w W3 nt r B p1 p2 p3 p4 n1 q1 n2 q2 n3 q3 n4 q4 cls lg) (hR : Rw W3 W L l) {i : Nat} {a : Acc} (ha : lg[i]? = some a) : ∃ g, p2 = some ⟨g, 0, none⟩ ∧ g < W.heap.size ∧
    W.cell? ⟨g, i * 7, none⟩ = some (.int .i64 a.mv) ∧ W.cell? ⟨g, i * 7 + 1, none⟩ = some (.int .i64 a.th) ∧ W.cell? ⟨g, i * 7 + 2, none⟩ = some (.int .i64 a.kd) ∧ W.cell? ⟨g, i * 7 + 3, none⟩ = some (.int .i64 a.ad) ∧ W.cell? ⟨g, i * 7 + 4, none⟩ = some (.int .u64 a.old) ∧ W.cell? ⟨g, i * 7 + 5, none⟩ = some (.int .u64 a.new) ∧ W.cell? ⟨g, i * 7 + 6, none⟩ = some (.int .u64 a.saw) := by
  have hl := (List.getElem?_eq_some_iff.1 ha).1
  have h2 := h.h2.below hR.bel
  obtain ⟨g, cap, e, _, h3, _⟩ := h2.there (by omega)
  have e2 := h.e2
  subst e2
  cases e
  exact ⟨g, rfl, h3, ac_at h2 ha⟩
theorem Gd.own (h : Gd w W3 nt r B p1 p2 p3 p4 n1 q1 n2 q2 n3 q3 n4 q4 cls lg) (hc : cls.length ≤ 100000) (hR : Rw W3 W L l) (m : Int) : Calls Try.prog 16 #[.agg #[.slice p1 n1 q1, .slice p2 n2 q2, .slice p3 n3 q3, .slice p4 n4 q4], .int .i64 m] W (OwP cls m W) :=
  owned_all cls (h.h1.below hR.bel) hc m
end
set_option maxHeartbeats 8000000 in
theorem swaps_yes (w : World) (nt r : Nat) (hd : dqB (nt : Int) (r : Int) = true) (am : Option Addr) (nm cm : Nat) (ms : List Mv) (hm : MvAt w am nm ms) (hnm : nm ≤ 65536) :
    Calls Try.prog 5 #[.agg #[.int .i64 (nt : Int), .int .i64 (r : Int)], .slice am nm cm] w fun e w' => e = .returned (.bool true) ∧ Below w.heap.size w w' := by
  have hr : 1 ≤ nt ∧ nt ≤ 16 ∧ 1 ≤ r ∧ r ≤ 256 := by simp only [dqB, Bool.and_eq_true, decide_eq_true_eq] at hd; omega
  have FT := fun w => fits_any (nt : Int) (r : Int) am nm cm w
  have e1 : (dqB (nt : Int) (r : Int) && decide ((nm : Int) ≤ 65536)) = true := by rw [hd]; simp; omega
  rw [e1] at FT
  have PL := fun (W : World) (hB : Below w.heap.size w W) => played_any W nt r hr.1 hr.2.1 hr.2.2.1 hr.2.2.2 am nm cm ms (hm.below hB) hnm
  obtain ⟨hI, hBd⟩ := pl_inv ms (p0_inv (nt := nt) hr.2.2.1 hr.2.2.2).1 (p0_inv hr.2.2.1 hr.2.2.2).2
  obtain ⟨_, hSb⟩ := pl_swaps ms (p0_inv (nt := nt) hr.2.2.1 hr.2.2.2).1 (sa_new (r := r) nt) (sb_new (r := r) nt)
  have hp : (Pl r (P0 nt r) ms).pts.length = nt := (pl_pts ms _).trans (by simp [P0, Pg.new])
  unfold PdP at PL
  generalize Pl r (P0 nt r) ms = P at *
  have hcl : P.cls.length ≤ 65536 := by have := hBd.n; have := hBd.cls; omega
  have hlg : P.lg.length ≤ 65536 := by have := hBd.n; have := hBd.lg; omega
  have hLk := fun j a h => (hSb.log j a h).2
  rw [hp] at hLk
  clear hI hBd hSb hp hm
  obtain ⟨pts, g, n, cls, ws, lg⟩ := P
  simp only at PL hcl hlg hLk
  obtain ⟨W0, hW0⟩ : ∃ W0, w.alloc (dBox nt r) = W0 := ⟨_, rfl⟩
  have B0 : Below w.heap.size w W0 := by rw [← hW0]; exact (Below.refl _ _).alloc (Nat.le_refl _) _
  have b0 : W0.heap[w.heap.size]? = some (dBox nt r) := by rw [← hW0]; exact heap_alloc_new w _
  have y0 : W0.cell? ⟨w.heap.size, 0, none⟩ = some (.int .i64 (nt : Int)) := cell_at b0 0
  have y1 : W0.cell? ⟨w.heap.size, 1, none⟩ = some (.int .i64 (r : Int)) := cell_at b0 1
  replace b0 := Mr.hid b0
  replace B0 := Mr.hid B0
  replace FT := Mr.hid FT
  replace PL := Mr.hid PL
  replace hLk := Mr.hid hLk
  replace hcl := Mr.hid hcl
  have hrr := Mr.hid hr
  unfold dBox at hW0
  clear hd e1 hr hnm
  go_enter Try.func5, Try.ntmps5
  go_upto_region 3 with (go_at_call 6; refine (FT.out _).mono ?_; clear FT; rintro e w1 ⟨rfl, hB⟩; have z1 := (hB.cell (p := ⟨w.heap.size, 0, none⟩) (by have := (Array.getElem?_eq_some_iff.1 b0.out).1; exact this)).trans y0; have z2 := (hB.cell (p := ⟨w.heap.size, 1, none⟩) (by have := (Array.getElem?_eq_some_iff.1 b0.out).1; exact this)).trans y1; have B1 := Mr.hid (B0.out.trans (hB.mono B0.out.size)); have b1 := Mr.hid ((hB.block _ (Array.getElem?_eq_some_iff.1 b0.out).1).trans b0.out); clear hB B0 b0 y0 y1 hW0)
  have PL1 := PL.out w1 B1.out
  clear PL
  go_upto_region 4 with (go_at_call 15; refine PL1.mono ?_; clear PL1; rintro e w2 ⟨v1, v2, v3, v4, rfl, hv1, hv2, hv3, hv4, hB⟩; obtain ⟨p1, q1, rfl, _⟩ := hv1.form; obtain ⟨p2, q2, rfl, _⟩ := hv2.form; obtain ⟨p3, q3, rfl, _⟩ := hv3.form; obtain ⟨p4, q4, rfl, _⟩ := hv4.form; replace hv1 := Mr.hid hv1; replace hv2 := Mr.hid hv2; clear hv3 hv4; have z3 := (hB.cell (p := ⟨w.heap.size, 0, none⟩) (by have := (Array.getElem?_eq_some_iff.1 b1.out).1; exact this)).trans z1; replace hB := Mr.hid hB; clear z1 z2; unfold runV)
  have G : Gd w (w2.alloc (runO (.slice p1 cls.length q1) (.slice p2 lg.length q2) (.slice p3 0 q3) (.slice p4 ws.length q4))) nt r w2.heap.size p1 p2 p3 p4 cls.length q1 lg.length q2 0 q3 ws.length q4 cls lg := by
    have l1 := (Array.getElem?_eq_some_iff.1 b1.out).1
    have hb2 := (hB.out.block _ l1).trans b1.out
    have hB2 := B1.out.trans (hB.out.mono B1.out.size)
    have hal : Below w2.heap.size w2 (w2.alloc (runO (.slice p1 cls.length q1) (.slice p2 lg.length q2) (.slice p3 0 q3) (.slice p4 ws.length q4))) := (Below.refl _ _).alloc (Nat.le_refl _) _
    refine ⟨hB2.trans (hal.mono hB2.size), (hal.block _ (Array.getElem?_eq_some_iff.1 hb2).1).trans hb2, heap_alloc_new w2 _, (hv1.out.mono (fun k hk => Nat.le_trans B1.out.size hk)).below hal, (hv2.out.mono (fun k hk => Nat.le_trans B1.out.size hk)).below hal, rfl⟩
  unfold runO at G
  generalize hW3 : w2.alloc _ = W3 at *
  generalize w2.heap.size = B at *
  replace hW3 := Mr.hid hW3
  clear hv1 hv2 hB B1 b1 z3
  obtain ⟨L, hL⟩ : ∃ L, L = W3.heap.size := ⟨_, rfl⟩
  have z3 : W3.cell? ⟨w.heap.size, 0, none⟩ = some (.int .i64 (nt : Int)) := cell_at G.d 0
  have MK := makeI W3 nt (by have := hrr.out; omega)
  have nt0 : (0 : Int) ≤ (nt : Int) := by omega
  rw [← hL] at MK
  have R0 : Hid (Rw W3 (W3.alloc (.cells (intsV (rowI nt (fun _ => 0))).toArray 3)) L (rowI nt (fun _ => 0))) := Mr.hid ⟨(Below.refl _ _).alloc (Nat.le_refl _) _, by omega, new_at W3 _ L hL⟩
  replace hL := Mr.hid hL
  replace G := Mr.hid G
  have q1' := ((Below.refl W3.heap.size W3).alloc (Nat.le_refl _) (.cells (intsV (rowI nt (fun _ => 0))).toArray 3))
  have yB := (G.out.cells R0.out).2.2.1
  clear q1'
  go_upto_region 8 with fail
  generalize W3.alloc _ = W4 at *
  clear z3 MK
  go_wp2
  go_loopg [7, 9, 10, 11] lg.length (fun k s7 s9 s10 s11 wr => ∃ (i : Nat), s11 = .int .i64 (i : Int) ∧ i + k = lg.length ∧ SwR W3 nt L lg i s7 s9 s10 wr)
  case atStart => exact ⟨0, rfl, by omega, rfl, rfl, rfl, R0.out⟩
  case round =>
    obtain ⟨i, rfl, hi, rfl, rfl, rfl, hR⟩ := hrel
    clear yB
    by_cases hlt : i < lg.length
    · obtain ⟨a, ha⟩ : ∃ a, lg[i]? = some a := ⟨_, List.getElem?_eq_getElem hlt⟩
      obtain ⟨ga, rfl, hga, x0, x1, x2, x3, x4, x5, x6⟩ := G.out.acc hR ha
      obtain ⟨u0, v0, v1, v2, v3⟩ := G.out.cells hR
      obtain ⟨kk, t0, t1⟩ := swS_b lg i (by omega)
      have lk := hLk.out i a ha
      have NX : Hid (∀ (t d l : Int) (f : Nat → Int) (W : World), (swN (swS (List.take i lg)) a).top = t → (swN (swS (List.take i lg)) a).down = d → (swN (swS (List.take i lg)) a).last = l → (swN (swS (List.take i lg)) a).ld = f → Rw W3 W L (rowI nt f) → SwR W3 nt L lg (i + 1) (.int .u64 t) (.int .u64 d) (.int .i64 l) W) := Mr.hid (fun t d l f W h1 h2 h3 h4 h => SwR.next ha rfl h1 h2 h3 h4 h)
      clear ha hLk
      generalize swS (List.take i lg) = s at *
      obtain ⟨top, down, last, ld, k⟩ := s
      obtain ⟨mv, th, kd, ad, old, new, saw⟩ := a
      obtain ⟨⟨j, hj, hjn⟩, l1, l2⟩ := lk
      simp only at kk t0 t1 l1 l2 x0 x1 x2 x3 x4 x5 x6 hj hR
      subst hj
      have kk' := kk.symm
      subst kk'
      have d1 : decide ((j : Int) < 0) = false := by simp
      have d2 : decide (nt ≤ j) = false := decide_eq_false (by omega)
      have d2' : decide ((nt : Int) ≤ (j : Int)) = false := decide_eq_false (by omega)
      have hil : (i : Int) < (lg.length : Int) := by omega
      have hil' : decide (i < lg.length) = true := decide_eq_true hlt
      have R1 : Hid (Rw W3 (wr.alloc (.cells #[.int .i64 mv, .int .i64 (j : Int), .int .i64 kd, .int .i64 ad, .int .u64 old, .int .u64 new, .int .u64 saw] 59 (0, 0))) L (rowI nt ld)) := Mr.hid (hR.below ((Below.refl _ _).alloc (Nat.le_refl _) _))
      have ca := new_at wr (.cells #[.int .i64 mv, .int .i64 (j : Int), .int .i64 kd, .int .i64 ad, .int .u64 old, .int .u64 new, .int .u64 saw] 59 (0, 0)) wr.heap.size rfl
      have hi' := Mr.hid hi
      have lt0 : w.heap.size < wr.heap.size := Nat.lt_of_lt_of_le (Array.getElem?_eq_some_iff.1 G.out.d).1 hR.bel.size
      have ltB : B < wr.heap.size := Nat.lt_of_lt_of_le (Array.getElem?_eq_some_iff.1 G.out.rn).1 hR.bel.size
      have ltL : L < wr.heap.size := (Array.getElem?_eq_some_iff.1 hR.blk).1
      clear hi hR hlt
      go_upto_region 16 with fail
      generalize wr.alloc _ = wq at *
      have hwq := Mr.hid (Array.getElem?_eq_some_iff.1 ca).1
      have c0 := cell_at ca 0
      have c1 := cell_at ca 1
      have c2 := cell_at ca 2
      have c3 := cell_at ca 3
      have c4 := cell_at ca 4
      have c5 := cell_at ca 5
      have c6 := cell_at ca 6
      simp only [List.getElem?_toArray, List.getElem?_cons_zero, List.getElem?_cons_succ] at c0 c1 c2 c3 c4 c5 c6
      clear ca u0 v0 v1 v2 v3 x0 x1 x2 x3 x4 x5 x6
      obtain ⟨u0, v0, v1, v2, v3⟩ := G.out.cells R1.out
      obtain ⟨r0, rz⟩ := R1.out.cell (rowI_get (f := ld) hjn)
      have OW := Mr.hid (G.out.own (by have := hcl.out; omega) R1.out mv)
      clear lt0 ltB d1 d2 d2' hga
      by_cases had : ad = 0
      · subst had
        by_cases hk : kd = 1
        · subst hk
          obtain rfl := l1 rfl rfl
          have P1 := Mr.hid (R1.out.put j (i : Int))
          rw [rowI_set] at P1
          clear l1 l2
          by_cases h0 : j = 0
          · subst h0
            go_wp2
            go_roundg (gk - 1)
            case measure => have := hi'.out; omega
            case rel => exact ⟨i + 1, by simp, by have := hi'.out; omega, NX.out _ _ _ _ _ (by simp [swN]) (by simp [swN]) (by simp [swN]) (by simp [swN]) P1.out⟩
          · have e0 : ((j : Int) == 0) = false := by simp [h0]
            have e0' : (j == 0) = false := by simp [h0]
            have e0'' := Mr.hid h0
            clear h0
            go_wp2
            go_roundg (gk - 1)
            case measure => have := hi'.out; omega
            case rel => exact ⟨i + 1, by simp, by have := hi'.out; omega, NX.out _ _ _ _ _ (by simp [swN]) (by simp [swN]) (by simp [swN]) (by simp [swN]) P1.out⟩
        · obtain ⟨rfl, rfl, o1, o2, hmiss, hown⟩ := l2 rfl hk
          have ow := u64x (old + 1) (by omega) (by omega)
          clear l1 l2 hk
          by_cases hs : saw = old
          · subst hs
            have tw := u64x (top + 1) (by omega) (by have := hi'.out; omega)
            clear hmiss o1 o2
            by_cases h0 : j = 0
            · subst h0
              replace hown := Mr.hid hown
              go_wp2_with (go_at_call 16; refine OW.out.mono ?_; clear OW; rintro e wo ⟨b, rfl, hb, hBo⟩; have R2 := Mr.hid (R1.out.below hBo); have c4w := (hBo.cell (p := ⟨wr.heap.size, 4, none⟩) hwq.out).trans c4; clear hBo; have hbd : b = false ∨ (b = true ∧ (saw != down) = false) := (by cases b with | false => exact .inl rfl | true => exact .inr ⟨rfl, by have h9 := (hown.out rfl).resolve_right (hb rfl); simp [h9]⟩); clear hb hown; rcases hbd with rfl | ⟨rfl, hne⟩)
              · go_roundg (gk - 1)
                case measure => have := hi'.out; omega
                case rel => exact ⟨i + 1, by simp, by have := hi'.out; omega, NX.out _ _ _ _ _ (by simp [swN]) (by simp [swN]) (by simp [swN]) (by simp [swN]) R2.out⟩
              · go_roundg (gk - 1)
                case measure => have := hi'.out; omega
                case rel => exact ⟨i + 1, by simp, by have := hi'.out; omega, NX.out _ _ _ _ _ (by simp [swN]) (by simp [swN]) (by simp [swN]) (by simp [swN]) R2.out⟩
            · have e0 : ((j : Int) == 0) = false := by simp [h0]
              have e0' : (j == 0) = false := by simp [h0]
              have e0'' := Mr.hid h0
              clear h0 hown
              go_wp2
              go_roundg (gk - 1)
              case measure => have := hi'.out; omega
              case rel => exact ⟨i + 1, by simp, by have := hi'.out; omega, NX.out _ _ _ _ _ (by simp [swN, e0''.out]) (by simp [swN, e0''.out]) (by simp [swN, e0''.out]) (by simp [swN, e0''.out]) R1.out⟩
          · have es : (saw == old) = false := by simp [hs]
            have hm := hmiss hs
            rw [Int.toNat_natCast] at hm
            have ed : decide (last < ld j) = false := decide_eq_false (by omega)
            have hs' := Mr.hid hs
            clear hmiss o1 o2 hs hm
            by_cases h0 : j = 0
            · subst h0
              replace hown := Mr.hid hown
              go_wp2_with (go_at_call 16; refine OW.out.mono ?_; clear OW; rintro e wo ⟨b, rfl, hb, hBo⟩; have R2 := Mr.hid (R1.out.below hBo); have c4w := (hBo.cell (p := ⟨wr.heap.size, 4, none⟩) hwq.out).trans c4; clear hBo; have hbd : b = false ∨ (b = true ∧ (old != down) = false) := (by cases b with | false => exact .inl rfl | true => exact .inr ⟨rfl, by have h9 := (hown.out rfl).resolve_right (hb rfl); simp [h9]⟩); clear hb hown; rcases hbd with rfl | ⟨rfl, hne⟩)
              · go_roundg (gk - 1)
                case measure => have := hi'.out; omega
                case rel => exact ⟨i + 1, by simp, by have := hi'.out; omega, NX.out _ _ _ _ _ (by simp [swN, hs'.out]) (by simp [swN, hs'.out]) (by simp [swN, hs'.out]) (by simp [swN, hs'.out]) R2.out⟩
              · go_roundg (gk - 1)
                case measure => have := hi'.out; omega
                case rel => exact ⟨i + 1, by simp, by have := hi'.out; omega, NX.out _ _ _ _ _ (by simp [swN, hs'.out]) (by simp [swN, hs'.out]) (by simp [swN, hs'.out]) (by simp [swN, hs'.out]) R2.out⟩
            · have e0 : ((j : Int) == 0) = false := by simp [h0]
              have e0' : (j == 0) = false := by simp [h0]
              have e0'' := Mr.hid h0
              clear h0 hown
              go_wp2
              go_roundg (gk - 1)
              case measure => have := hi'.out; omega
              case rel => exact ⟨i + 1, by simp, by have := hi'.out; omega, NX.out _ _ _ _ _ (by simp [swN, e0''.out, hs'.out]) (by simp [swN, e0''.out, hs'.out]) (by simp [swN, e0''.out, hs'.out]) (by simp [swN, e0''.out, hs'.out]) R1.out⟩
      · have a0 : (ad == 0) = false := by simp [had]
        have a0' := Mr.hid had
        clear had l1 l2
        by_cases h0 : j = 0
        · subst h0
          by_cases h1 : ad = 1
          · subst h1
            by_cases h2 : kd = 2
            · subst h2
              go_wp2
              go_roundg (gk - 1)
              case measure => have := hi'.out; omega
              case rel => exact ⟨i + 1, by simp, by have := hi'.out; omega, NX.out _ _ _ _ _ (by simp [swN]) (by simp [swN]) (by simp [swN]) (by simp [swN]) R1.out⟩
            · have e2 : (kd == 2) = false := by simp [h2]
              have e2' := Mr.hid h2
              clear h2
              go_wp2
              go_roundg (gk - 1)
              case measure => have := hi'.out; omega
              case rel => exact ⟨i + 1, by simp, by have := hi'.out; omega, NX.out _ _ _ _ _ (by simp [swN, e2'.out]) (by simp [swN, e2'.out]) (by simp [swN, e2'.out]) (by simp [swN, e2'.out]) R1.out⟩
          · have e1 : (ad == 1) = false := by simp [h1]
            have e1' := Mr.hid h1
            clear h1
            go_wp2
            go_roundg (gk - 1)
            case measure => have := hi'.out; omega
            case rel => exact ⟨i + 1, by simp, by have := hi'.out; omega, NX.out _ _ _ _ _ (by simp [swN, a0'.out, e1'.out]) (by simp [swN, a0'.out, e1'.out]) (by simp [swN, a0'.out, e1'.out]) (by simp [swN, a0'.out, e1'.out]) R1.out⟩
        · have e0 : ((j : Int) == 0) = false := by simp [h0]
          have e0' : (j == 0) = false := by simp [h0]
          have e0'' := Mr.hid h0
          clear h0
          go_wp2
          go_roundg (gk - 1)
          case measure => have := hi'.out; omega
          case rel => exact ⟨i + 1, by simp, by have := hi'.out; omega, NX.out _ _ _ _ _ (by simp [swN, a0'.out, e0''.out]) (by simp [swN, a0'.out, e0''.out]) (by simp [swN, a0'.out, e0''.out]) (by simp [swN, a0'.out, e0''.out]) R1.out⟩
    · obtain rfl : i = lg.length := by omega
      have q0 : decide (lg.length < lg.length) = false := by simp
      have hb := Mr.hid (G.out.bel.trans (hR.bel.mono G.out.bel.size))
      have yB := (G.out.cells hR).2.2.1
      clear hR hlt hi hLk
      go_wp2
      go_ret
      exact ⟨rfl, hb.out⟩
end Go.Proofs.Ytihkcbbbgmjogaa.Dm
