import Derived.Test.YtmejblmeaipahaaDoorJ24
import Derived.Test.YtmejblmeaipahaaDoorJ15
/-
  TSO: the document's Turn: what it leans on.
-/
namespace Go.Proofs.YtmejblmeaipahaaDoor.Ts
open Go.RowKit Mr
set_option linter.unusedVariables false
set_option linter.unusedSimpArgs false
set_option maxRecDepth 100000
/-- What a turn of the document leans on. -/
structure Dp (l : Lt) (s : Sv) (o : Int) (B : Nat) (G : Gs) (ah : Option Addr) (nw nt tk : Nat) (r : Rg) (pc : Nat) (b : List Pd) (w0 w : World) (c : List In) (a : Option Addr) (n k ga qa : Nat) : Prop where
  D : Ds w B G s nw nt
  Bw : B ≤ w.heap.size
  t : tk < nt
  nt4 : nt ≤ 4
  nw6 : nw ≤ 6
  V : Vw s tk r (pc : Int) b
  bl : b.length ≤ 10
  ba : ∀ q ∈ b, 0 ≤ q.ad ∧ q.ad < (nw : Int)
  sc : o = 1 → b = []
  ord : ordB o = true
  ah : ah = some ⟨ga, qa, none⟩
  gaB : ga < B
  cell : w.cell? ⟨ga, qa + tk, none⟩ = some (.slice a n k)
  cd : CdAt w a n c
  cdB : c ≠ [] → ∀ g q, a = some ⟨g, q, none⟩ → g < B
  n10 : n ≤ 10
  pc1 : pc ≤ n
  fit : ∀ i ∈ c, fitB (nw : Int) i = true
def bxT (w : World) (aw ah : Option Addr) (nw cw nt ct tk : Nat) (ou : Bool) (ad : Int) : World := (w.alloc (.cells #[.slice aw nw cw, .slice ah nt ct] 25)).alloc (.cells #[.int .i64 (tk : Int), .bool ou, .int .i64 ad] 44)
theorem bxT_below (w : World) (aw ah : Option Addr) (nw cw nt ct tk : Nat) (ou : Bool) (ad : Int) : Below w.heap.size w (bxT w aw ah nw cw nt ct tk ou ad) := ((Below.refl _ _).alloc (Nat.le_refl _) _).alloc (by simp) _
theorem bxT_0 (w : World) (aw ah : Option Addr) (nw cw nt ct tk : Nat) (ou : Bool) (ad : Int) : (bxT w aw ah nw cw nt ct tk ou ad).heap[w.heap.size]? = some (.cells #[.slice aw nw cw, .slice ah nt ct] 25 (0, 0)) := (Lib.alloc_old _ _ _ (by simp)).trans (new_at _ _ _ rfl)
theorem bxT_1 (w : World) (aw ah : Option Addr) (nw cw nt ct tk : Nat) (ou : Bool) (ad : Int) : (bxT w aw ah nw cw nt ct tk ou ad).heap[w.heap.size + 1]? = some (.cells #[.int .i64 (tk : Int), .bool ou, .int .i64 ad] 44 (0, 0)) := new_at _ _ _ (by simp)
theorem Ds.c0 {W : World} {B : Nat} {G : Gs} {s : Sv} {nw nt : Nat} (h : Ds W B G s nw nt) : W.cell? ⟨G.p, 0, none⟩ = some (.slice (some ⟨G.g1, 0, none⟩) nw G.c1) := cell_blk h.blk 0
theorem Ds.c1 {W : World} {B : Nat} {G : Gs} {s : Sv} {nw nt : Nat} (h : Ds W B G s nw nt) : W.cell? ⟨G.p, 1, none⟩ = some (.slice (some ⟨G.g2, 0, none⟩) nt G.c2) := cell_blk h.blk 1
theorem Ds.c2 {W : World} {B : Nat} {G : Gs} {s : Sv} {nw nt : Nat} (h : Ds W B G s nw nt) : W.cell? ⟨G.p, 2, none⟩ = some (.slice (some ⟨G.g3, 0, none⟩) nt G.c3) := cell_blk h.blk 2
theorem Ds.c3 {W : World} {B : Nat} {G : Gs} {s : Sv} {nw nt : Nat} (h : Ds W B G s nw nt) : W.cell? ⟨G.p, 3, none⟩ = some (.slice (some ⟨G.g4, 0, none⟩) nt G.c4) := cell_blk h.blk 3
theorem Ds.w {W : World} {B : Nat} {G : Gs} {s : Sv} {nw nt : Nat} (h : Ds W B G s nw nt) {j : Nat} {x : Int} (hx : s.ws[j]? = some x) : W.cell? ⟨G.g1, j, none⟩ = some (.int .i64 x) ∧ W.frozen? ⟨G.g1, j, none⟩ = false := by
  obtain ⟨A, a, b⟩ := h.h1
  exact ⟨(cell_blk a j).trans (b j x hx), by unfold World.frozen?; rw [a]; rfl⟩
theorem Ds.r {W : World} {B : Nat} {G : Gs} {s : Sv} {nw nt : Nat} (h : Ds W B G s nw nt) {t k : Nat} {x : Rg} (hx : s.rg[t]? = some x) (hk : k < 4) : W.cell? ⟨G.g2, t * 4 + k, none⟩ = some (.int .i64 (x.get k)) ∧ W.frozen? ⟨G.g2, t * 4 + k, none⟩ = false := by
  obtain ⟨A, a, b⟩ := h.h2
  exact ⟨(cell_blk a _).trans (b t x hx k hk), by unfold World.frozen?; rw [a]; rfl⟩
theorem Ds.pc {W : World} {B : Nat} {G : Gs} {s : Sv} {nw nt : Nat} (h : Ds W B G s nw nt) {j : Nat} {x : Int} (hx : s.pl[j]? = some x) : W.cell? ⟨G.g3, j, none⟩ = some (.int .i64 x) ∧ W.frozen? ⟨G.g3, j, none⟩ = false := by
  obtain ⟨A, a, b⟩ := h.h3
  exact ⟨(cell_blk a j).trans (b j x hx), by unfold World.frozen?; rw [a]; rfl⟩
theorem Ds.b {W : World} {B : Nat} {G : Gs} {s : Sv} {nw nt : Nat} (h : Ds W B G s nw nt) {t : Nat} {x : List Pd} (hx : s.bf[t]? = some x) : ∃ a c, W.cell? ⟨G.g4, t, none⟩ = some (.slice a x.length c) ∧ W.frozen? ⟨G.g4, t, none⟩ = false ∧ Has W (G.out B) 70 2 (.slice a x.length c) x.length (pdV x) ∧ ∀ A : Array Value, W.heap[G.g4]? = some (.cells A 68 (0, 0)) → A[t]? = some (.slice a x.length c) := by
  obtain ⟨A, a, b, -⟩ := h.h4
  obtain ⟨v, hv, hH⟩ := b t x hx
  obtain ⟨a', c', rfl, hc⟩ := hH.form
  exact ⟨a', c', (cell_blk a t).trans hv, by unfold World.frozen?; rw [a]; rfl, hH, fun A' hA' => by rw [a] at hA'; cases hA'; exact hv⟩
/-- A turn of the document on its way. -/
structure Tl (w W : World) (B : Nat) (G : Gs) (s : Sv) (nw nt ct tk n k ga qa gc qd hi : Nat) (i : In) : Prop where
  D : Ds W B G s nw nt
  x : W.cell? ⟨w.heap.size, 1, none⟩ = some (.slice (some ⟨ga, qa, none⟩) nt ct)
  q : W.cell? ⟨ga, qa + tk, none⟩ = some (.slice (some ⟨gc, qd, none⟩) n k)
  b : W.heap[hi]? = some (.cells #[.int .i64 i.kd, .int .i64 i.rg, .int .i64 i.ad, .int .i64 i.vl, .int .i64 i.fr, .int .i64 i.ol, .int .i64 i.ct] 73 (0, 0))
  lo : G.p < w.heap.size ∧ G.g1 < w.heap.size ∧ G.g2 < w.heap.size ∧ G.g3 < w.heap.size ∧ G.g4 < w.heap.size
  up : w.heap.size < hi
  ga_ : ga < B
  Bw : B ≤ w.heap.size
  BB : Below B w W
section
variable {w W : World} {B : Nat} {G : Gs} {s : Sv} {nw nt ct tk n k ga qa gc qd hi : Nat} {i : In}
theorem Tl.below {W' : World} (h : Tl w W B G s nw nt ct tk n k ga qa gc qd hi i) (hB : Below W.heap.size W W') : Tl w W' B G s nw nt ct tk n k ga qa gc qd hi i :=
  ⟨h.D.below hB, (hB.cell (p := ⟨w.heap.size, 1, none⟩) (World.block_lt_of_cell? W _ h.x)).trans h.x, (hB.cell (p := ⟨ga, qa + tk, none⟩) (World.block_lt_of_cell? W _ h.q)).trans h.q, (hB.block _ (Array.getElem?_eq_some_iff.1 h.b).1).trans h.b, h.lo, h.up, h.ga_, h.Bw, h.BB.trans (hB.mono (Nat.le_trans h.Bw h.BB.size))⟩
theorem Tl.put {g j : Nat} {u : Value} {s' : Sv} (h : Tl w W B G s nw nt ct tk n k ga qa gc qd hi i) (hg : B ≤ g ∧ g < w.heap.size) (hD : Ds (W.setCell ⟨g, j, none⟩ u) B G s' nw nt) : Tl w (W.setCell ⟨g, j, none⟩ u) B G s' nw nt ct tk n k ga qa gc qd hi i := by
  have h1 := h.ga_
  have h2 := h.up
  exact ⟨hD, (World.cell?_of_block (a := ⟨w.heap.size, 1, none⟩) (Below.heap_setCell W ⟨g, j, none⟩ u w.heap.size (by show _ ≠ g; omega))).trans h.x, (World.cell?_of_block (a := ⟨ga, qa + tk, none⟩) (Below.heap_setCell W ⟨g, j, none⟩ u ga (by show _ ≠ g; omega))).trans h.q, (Below.heap_setCell W ⟨g, j, none⟩ u hi (by show _ ≠ g; omega)).trans h.b, h.lo, h.up, h.ga_, h.Bw, h.BB.setCell (p := ⟨g, j, none⟩) hg.1 u⟩
theorem Tl.drew (h : Tl w W B G s nw nt ct tk n k ga qa gc qd hi i) : Tl w W.drew B G s nw nt ct tk n k ga qa gc qd hi i := h.below (Below.refl _ _).drew
theorem Tl.i1 (h : Tl w W B G s nw nt ct tk n k ga qa gc qd hi i) : W.cell? ⟨hi, 1, none⟩ = some (.int .i64 i.rg) := cell_blk h.b 1
theorem Tl.i0 (h : Tl w W B G s nw nt ct tk n k ga qa gc qd hi i) : W.cell? ⟨hi, 0, none⟩ = some (.int .i64 i.kd) := cell_blk h.b 0
theorem Tl.i2 (h : Tl w W B G s nw nt ct tk n k ga qa gc qd hi i) : W.cell? ⟨hi, 2, none⟩ = some (.int .i64 i.ad) := cell_blk h.b 2
theorem Tl.i3 (h : Tl w W B G s nw nt ct tk n k ga qa gc qd hi i) : W.cell? ⟨hi, 3, none⟩ = some (.int .i64 i.vl) := cell_blk h.b 3
theorem Tl.i4 (h : Tl w W B G s nw nt ct tk n k ga qa gc qd hi i) : W.cell? ⟨hi, 4, none⟩ = some (.int .i64 i.fr) := cell_blk h.b 4
theorem Tl.i5 (h : Tl w W B G s nw nt ct tk n k ga qa gc qd hi i) : W.cell? ⟨hi, 5, none⟩ = some (.int .i64 i.ol) := cell_blk h.b 5
theorem Tl.i6 (h : Tl w W B G s nw nt ct tk n k ga qa gc qd hi i) : W.cell? ⟨hi, 6, none⟩ = some (.int .i64 i.ct) := cell_blk h.b 6
theorem Tl.setR (h : Tl w W B G s nw nt ct tk n k ga qa gc qd hi i) {m : Nat} {r : Rg} (hr : s.rg[tk]? = some r) (hm : m < 4) (x : Int) : Tl w (W.setCell ⟨G.g2, tk * 4 + m, none⟩ (.int .i64 x)) B G { s with rg := s.rg.set tk (r.put m x) } nw nt ct tk n k ga qa gc qd hi i := h.put ⟨h.D.ok.le.2.2.1, h.lo.2.2.1⟩ (h.D.setR hr hm x)
theorem Tl.setW (h : Tl w W B G s nw nt ct tk n k ga qa gc qd hi i) (m : Nat) (x : Int) : Tl w (W.setCell ⟨G.g1, m, none⟩ (.int .i64 x)) B G { s with ws := s.ws.set m x } nw nt ct tk n k ga qa gc qd hi i := h.put ⟨h.D.ok.le.2.1, h.lo.2.1⟩ (h.D.setW m x)
theorem Tl.setP (h : Tl w W B G s nw nt ct tk n k ga qa gc qd hi i) (x : Int) : Tl w (W.setCell ⟨G.g3, tk, none⟩ (.int .i64 x)) B G { s with pl := s.pl.set tk x } nw nt ct tk n k ga qa gc qd hi i := h.put ⟨h.D.ok.le.2.2.2.1, h.lo.2.2.2.1⟩ (h.D.setP tk x)
end
/-- What ins comes to. -/
theorem ins_of {o : Int} {s : Sv} {tk pc n : Nat} {r : Rg} {b : List Pd} {c : List In} {i : In} (hV : Vw s tk r (pc : Int) b) (hi : c[pc]? = some i) (hn : n = c.length) : ins o c (vw s tk) = (stp o i ⟨s.ws, r, (pc : Int), b⟩).map fun y => { y with pc := min (y.pc + 1) (n : Int) } := by
  rw [hV.vw]; unfold ins; dsimp only; rw [Int.toNat_natCast, hi, hn]
set_option maxHeartbeats 8000000 in
theorem rturn_end (l : Lt) (s : Sv) (o : Int) (B : Nat) (G : Gs) (aw ah : Option Addr) (nw cw nt ct tk : Nat) (ad0 : Int) (r : Rg) (pc : Nat) (b : List Pd) (w0 w : World) (c : List In) (a : Option Addr) (n k ga qa : Nat) (h : Dp l s o B G ah nw nt tk r pc b w0 w c a n k ga qa) (hpc : pc = n) :
    Calls Tryd.prog 20 #[.agg #[.slice aw nw cw, .slice ah nt ct], .int .i64 o, .pointer (some ⟨G.p, 0, none⟩), .agg #[.int .i64 (tk : Int), .bool false, .int .i64 ad0]] w fun e w' => RuP (ins o c (vw s tk)) s tk e (fun s' => Ds w' B G s' nw nt ∧ Below B w w') := by
  obtain rfl := h.ah
  have B2 := bxT_below w aw (some ⟨ga, qa, none⟩) nw cw nt ct tk false ad0
  have b0 := bxT_0 w aw (some ⟨ga, qa, none⟩) nw cw nt ct tk false ad0
  have b1 := bxT_1 w aw (some ⟨ga, qa, none⟩) nw cw nt ct tk false ad0
  have D2 := h.D.below B2
  have x0 := cell_blk b0 1
  have y0 := cell_blk b1 0
  have y1 := cell_blk b1 1
  have l0 := (Array.getElem?_eq_some_iff.1 b0).1
  have l1 := (Array.getElem?_eq_some_iff.1 b1).1
  have p2 := D2.c2
  have lp := D2.lts.1
  have l3 := D2.lts.2.2.2.1
  obtain ⟨q3, f3⟩ := D2.pc h.V.p
  have gw : ga < w.heap.size := Nat.lt_of_lt_of_le h.gaB h.Bw
  have qc := (B2.cell (p := ⟨ga, qa + tk, none⟩) gw).trans h.cell
  have lga : ga < (bxT w aw (some ⟨ga, qa, none⟩) nw cw nt ct tk false ad0).heap.size := Nat.lt_of_lt_of_le gw B2.size
  have htI : (tk : Int) < (nt : Int) := by have := h.t; omega
  have d1 : decide ((tk : Int) < 0) = false := decide_eq_false (by omega)
  have d1' : ¬ (tk : Int) < 0 := by omega
  have d2 : decide ((nt : Int) ≤ (tk : Int)) = false := decide_eq_false (by omega)
  have d2' : ¬ (nt : Int) ≤ (tk : Int) := by omega
  have hx : ins o c (vw s tk) = none := by
    unfold ins
    rw [h.V.vw]
    dsimp only
    rw [Int.toNat_natCast, List.getElem?_eq_none (by have := h.cd.1; omega)]
  have hfin : Hid (∀ W, Below w.heap.size w W → RuP (ins o c (vw s tk)) s tk (.returned (.bool false)) (fun s' => Ds W B G s' nw nt ∧ Below B w W)) := fun W hW => .inl ⟨hx, rfl, h.D.below hW, hW.mono h.Bw⟩
  have dq : ((pc : Int) == (n : Int)) = true := by rw [hpc]; simp
  replace hpc := Mr.hid hpc
  replace B2 := Mr.hid B2
  clear h D2 b0 b1 hx f3
  go_enter Tryd.func20, Tryd.ntmps20
  go_upto_region 6 with fail
  show Code.wp _ _ _ _ (bxT w aw (some ⟨ga, qa, none⟩) nw cw nt ct tk false ad0)
  generalize (bxT w aw (some ⟨ga, qa, none⟩) nw cw nt ct tk false ad0) = w2 at *
  go_region_held3 (fun W => W.cell? ⟨G.p, 2, none⟩ = some (.slice (some ⟨G.g3, 0, none⟩) nt G.c3) ∧ W.cell? ⟨G.g3, tk, none⟩ = some (.int .i64 (pc : Int)) ∧ W.cell? ⟨w.heap.size, 1, none⟩ = some (.slice (some ⟨ga, qa, none⟩) nt ct) ∧ W.cell? ⟨ga, qa + tk, none⟩ = some (.slice a n k)) (simp [*, go_sem]) (fail)
  have BZ := Mr.hid (B2.out.drew)
  go_wp2
  go_ret
  exact hfin.out _ BZ.out
end Go.Proofs.YtmejblmeaipahaaDoor.Ts
/-
  TSO: the document's Turn of a thread that isn't there, and of a store that comes out.
-/
namespace Go.Proofs.YtmejblmeaipahaaDoor.Ts
open Go.RowKit Mr
set_option linter.unusedVariables false
set_option linter.unusedSimpArgs false
set_option maxRecDepth 100000
set_option maxHeartbeats 8000000 in
theorem rturn_no (l : Lt) (s : Sv) (o : Int) (B : Nat) (G : Gs) (aw ah : Option Addr) (nw cw nt ct : Nat) (tn : Tn) (w : World) (hD : Ds w B G s nw nt) (hBw : B ≤ w.heap.size) (hl : nt = l.th.length) (hno : ¬ (0 ≤ tn.th ∧ tn.th < (nt : Int))) :
    Calls Tryd.prog 20 #[.agg #[.slice aw nw cw, .slice ah nt ct], .int .i64 o, .pointer (some ⟨G.p, 0, none⟩), tnV tn] w fun e w' => RuP (act l o s tn) s tn.th.toNat e (fun s' => Ds w' B G s' nw nt ∧ Below B w w') := by
  obtain ⟨th, ou, ad⟩ := tn
  dsimp only at hno ⊢
  have hx : act l o s ⟨th, ou, ad⟩ = none := by unfold act; dsimp only; rw [if_neg (by omega)]
  have B2 : Below w.heap.size w ((w.alloc (.cells #[.slice aw nw cw, .slice ah nt ct] 25)).alloc (.cells #[.int .i64 th, .bool ou, .int .i64 ad] 44)) := ((Below.refl _ _).alloc (Nat.le_refl _) _).alloc (by simp) _
  have b0 : ((w.alloc (.cells #[.slice aw nw cw, .slice ah nt ct] 25)).alloc (.cells #[.int .i64 th, .bool ou, .int .i64 ad] 44)).heap[w.heap.size]? = some (.cells #[.slice aw nw cw, .slice ah nt ct] 25 (0, 0)) := (Lib.alloc_old _ _ _ (by simp)).trans (new_at _ _ _ rfl)
  have b1 : ((w.alloc (.cells #[.slice aw nw cw, .slice ah nt ct] 25)).alloc (.cells #[.int .i64 th, .bool ou, .int .i64 ad] 44)).heap[w.heap.size + 1]? = some (.cells #[.int .i64 th, .bool ou, .int .i64 ad] 44 (0, 0)) := new_at _ _ _ (by simp)
  have x0 := cell_blk b0 1
  have y0 := cell_blk b1 0
  have hfin : Hid (∀ W, Below w.heap.size w W → RuP (act l o s ⟨th, ou, ad⟩) s th.toNat (.returned (.bool false)) (fun s' => Ds W B G s' nw nt ∧ Below B w W)) := fun W hW => .inl ⟨hx, rfl, hD.below hW, hW.mono hBw⟩
  have B2' := Mr.hid B2
  clear B2 hD hBw hl hx b0 b1
  unfold tnV
  by_cases hneg : th < 0
  · have d1 : decide (th < 0) = true := decide_eq_true hneg
    clear hno
    go_enter Tryd.func20, Tryd.ntmps20
    go_wp2
    go_ret
    exact hfin.out _ B2'.out
  · have d1 : decide (th < 0) = false := decide_eq_false hneg
    have hge : (nt : Int) ≤ th := by omega
    have d2 : decide ((nt : Int) ≤ th) = true := decide_eq_true hge
    clear hno
    go_enter Tryd.func20, Tryd.ntmps20
    go_wp2
    go_ret
    exact hfin.out _ B2'.out
set_option maxHeartbeats 8000000 in
theorem rturn_out (l : Lt) (s : Sv) (o : Int) (B : Nat) (G : Gs) (aw ah : Option Addr) (nw cw nt ct tk : Nat) (ad : Int) (r : Rg) (pc : Int) (b : List Pd) (w : World) (hD : Ds w B G s nw nt) (hBw : B ≤ w.heap.size) (hl : nt = l.th.length) (ht : tk < nt) (hnt : nt ≤ 4) (hnw : nw ≤ 6) (hv : Vw s tk r pc b) (hbl : b.length ≤ 10) (hba : ∀ q ∈ b, 0 ≤ q.ad ∧ q.ad < (nw : Int)) (hsc : o = 1 → b = []) (ho : ordB o = true) :
    Calls Tryd.prog 20 #[.agg #[.slice aw nw cw, .slice ah nt ct], .int .i64 o, .pointer (some ⟨G.p, 0, none⟩), tnV ⟨(tk : Int), true, ad⟩] w fun e w' => RuP (act l o s ⟨(tk : Int), true, ad⟩) s tk e (fun s' => Ds w' B G s' nw nt ∧ Below B w w') := by
  have hx : act l o s ⟨(tk : Int), true, ad⟩ = out1 o (vw s tk) ad := by unfold act; dsimp only; rw [if_pos (by omega)]; simp
  have B2 := bxT_below w aw ah nw cw nt ct tk true ad
  have b0 := bxT_0 w aw ah nw cw nt ct tk true ad
  have b1 := bxT_1 w aw ah nw cw nt ct tk true ad
  have x0 := cell_blk b0 1
  have y0 := cell_blk b1 0
  have y1 := cell_blk b1 1
  have y2 := cell_blk b1 2
  have OU := rout_any s B G nw nt tk o ad r pc b _ (hD.below B2) (Nat.le_trans hBw B2.size) ht hnt hnw hv hbl hba hsc ho
  rw [← hx] at OU
  replace OU := Mr.hid OU
  have htI : (tk : Int) < (nt : Int) := by omega
  have d1 : decide ((tk : Int) < 0) = false := decide_eq_false (by omega)
  have d1' : ¬ (tk : Int) < 0 := by omega
  have d2 : decide ((nt : Int) ≤ (tk : Int)) = false := decide_eq_false (by omega)
  have d2' : ¬ (nt : Int) ≤ (tk : Int) := by omega
  have hfin : Hid (∀ (W : World) (e : Ending), RuP (act l o s ⟨(tk : Int), true, ad⟩) s tk e (fun s' => Ds W B G s' nw nt ∧ Below B (bxT w aw ah nw cw nt ct tk true ad) W) → RuP (act l o s ⟨(tk : Int), true, ad⟩) s tk e (fun s' => Ds W B G s' nw nt ∧ Below B w W)) := fun W e hR => by
    rcases hR with ⟨a1, a2, a3, a4⟩ | ⟨y, a1, a2, a3, a4⟩
    · exact .inl ⟨a1, a2, a3, (B2.mono hBw).trans a4⟩
    · exact .inr ⟨y, a1, a2, a3, (B2.mono hBw).trans a4⟩
  clear hD hl hx b0 b1 hv hba hsc ho B2
  unfold bxT at *
  unfold tnV
  go_enter Tryd.func20, Tryd.ntmps20
  go_wp2_with (go_at_call 32; refine OU.out.mono ?_; clear OU; rintro e w4 D; replace D := Mr.hid (hfin.out _ _ D); obtain ⟨bb, hbb⟩ : ∃ bb, e = .returned (.bool bb) := RuP.ret D.out; subst hbb)
  go_ret
  exact D.out
end Go.Proofs.YtmejblmeaipahaaDoor.Ts
