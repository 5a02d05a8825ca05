import Derived.Test.YtmejblmeaipahaaDoorJ01
import Derived.Laws.StructEq
import Derived.Test.YtmejblmeaipahaaDoorJ04
/-
  TSO: two arrays of four numbers compared.
-/
namespace Go.Proofs.YtmejblmeaipahaaDoor.Ts
open Go.RowKit Mr
set_option linter.unusedVariables false
set_option linter.unusedSimpArgs false
theorem und4 : Tryd.prog.underlying 67 = some (.array 4 3) := by kernel_rfl
theorem undi : Tryd.prog.underlying 3 = some (.int .i64) := by kernel_rfl
theorem infi : (Tryd.prog.info? 3).map (fun i => i.size) = some 1 := by kernel_rfl
theorem equal4 (a0 a1 a2 a3 b0 b1 b2 b3 : Int) (w : World) : (Op.equal 67 (.agg #[.int .i64 a0, .int .i64 a1, .int .i64 a2, .int .i64 a3]) (.agg #[.int .i64 b0, .int .i64 b1, .int .i64 b2, .int .i64 b3])).run Tryd.prog w = .ok (a0 == b0 && (a1 == b1 && (a2 == b2 && a3 == b3))) w := by
  have hi : ∃ i, Tryd.prog.info? 3 = some i ∧ i.size = 1 := by
    have h := infi
    cases hh : Tryd.prog.info? 3 with
    | none => rw [hh] at h; cases h
    | some i => rw [hh] at h; simp at h; exact ⟨i, rfl, h⟩
  obtain ⟨i, hi, hs⟩ := hi
  unfold Op.equal Op.maxDepth
  show (Op.equalIn (9998 + 1 + 1) _ _ _).run _ _ = _
  rw [Op.equalIn]
  have e : ∀ (d : Nat) (x y : Int), (Op.equalIn (d + 1) 3 (.int .i64 x) (.int .i64 y)).run Tryd.prog w = .ok (x == y) w := fun d x y => by rw [Op.equalIn]; simp [run_underlying undi]
  simp only [Std.Legacy.Range.forIn_eq_forIn_range', run_underlying und4]
  simp [run_underlying und4, run_underlying undi, sizeOf, typeInfo, hi, hs, part, isAgg, List.range', e 9998]
  by_cases h0 : a0 = b0 <;> by_cases h1 : a1 = b1 <;> by_cases h2 : a2 = b2 <;> by_cases h3 : a3 = b3 <;> simp [h0, h1, h2, h3]
theorem guard4 (op : BinOp) (x y : Operand) (xs ys : Array Value) (w : World) : (eqGuard op 67 x y (.agg xs) (.agg ys)).run Tryd.prog w = .ok () w := by
  have h : Tryd.prog.eqGuardType Tryd.prog.depth 67 = false := by kernel_rfl
  unfold eqGuard
  cases op <;> simp [h]
theorem neq4 (a0 a1 a2 a3 b0 b1 b2 b3 : Int) (w : World) : (binOp .neq 67 (.agg #[.int .i64 a0, .int .i64 a1, .int .i64 a2, .int .i64 a3]) (.agg #[.int .i64 b0, .int .i64 b1, .int .i64 b2, .int .i64 b3])).run Tryd.prog w = .ok (.bool (!(a0 == b0 && (a1 == b1 && (a2 == b2 && a3 == b3))))) w := by
  unfold binOp
  simp [equal4]
end Go.Proofs.YtmejblmeaipahaaDoor.Ts
/-
  TSO: states, and the law's sameState of what is the same.
-/
namespace Go.Proofs.YtmejblmeaipahaaDoor.Ts
open Go.RowKit Mr
set_option linter.unusedVariables false
set_option linter.unusedSimpArgs false
set_option maxRecDepth 100000
/-- A thread's registers. -/
structure Rg where
  r0 : Int
  r1 : Int
  r2 : Int
  r3 : Int
deriving DecidableEq
/-- A store that waits. -/
structure Pd where
  ad : Int
  vl : Int
deriving DecidableEq
/-- A state. -/
structure Sv where
  ws : List Int
  rg : List Rg
  pl : List Int
  bf : List (List Pd)
/-- A slice that reads as threads' registers. -/
def RgAt (W : World) (a : Option Addr) (n : Nat) (xs : List Rg) : Prop :=
  n = xs.length ∧ (xs = [] ∨ ∃ b o, a = some ⟨b, o, none⟩ ∧ b < W.heap.size ∧ ∀ j x, xs[j]? = some x → W.cell? ⟨b, o + j * 4, none⟩ = some (.int .i64 x.r0) ∧ W.cell? ⟨b, o + j * 4 + 1, none⟩ = some (.int .i64 x.r1) ∧ W.cell? ⟨b, o + j * 4 + 2, none⟩ = some (.int .i64 x.r2) ∧ W.cell? ⟨b, o + j * 4 + 3, none⟩ = some (.int .i64 x.r3))
theorem RgAt.below {W W' : World} {a : Option Addr} {n : Nat} {xs : List Rg} (h : RgAt W a n xs) (hB : Below W.heap.size W W') : RgAt W' a n xs := by
  refine ⟨h.1, ?_⟩
  rcases h.2 with h | ⟨b, o, rfl, hl, hc⟩
  · exact .inl h
  · refine .inr ⟨b, o, rfl, Nat.lt_of_lt_of_le hl hB.size, fun j x hx => ?_⟩
    obtain ⟨c0, c1, c2, c3⟩ := hc j x hx
    exact ⟨(hB.cell (p := ⟨b, _, none⟩) hl).trans c0, (hB.cell (p := ⟨b, _, none⟩) hl).trans c1, (hB.cell (p := ⟨b, _, none⟩) hl).trans c2, (hB.cell (p := ⟨b, _, none⟩) hl).trans c3⟩
/-- A slice that reads as stores. -/
def PdAt (W : World) (a : Option Addr) (n : Nat) (xs : List Pd) : Prop :=
  n = xs.length ∧ (xs = [] ∨ ∃ b o, a = some ⟨b, o, none⟩ ∧ b < W.heap.size ∧ ∀ j x, xs[j]? = some x → W.cell? ⟨b, o + j * 2, none⟩ = some (.int .i64 x.ad) ∧ W.cell? ⟨b, o + j * 2 + 1, none⟩ = some (.int .i64 x.vl))
theorem PdAt.below {W W' : World} {a : Option Addr} {n : Nat} {xs : List Pd} (h : PdAt W a n xs) (hB : Below W.heap.size W W') : PdAt W' a n xs := by
  refine ⟨h.1, ?_⟩
  rcases h.2 with h | ⟨b, o, rfl, hl, hc⟩
  · exact .inl h
  · refine .inr ⟨b, o, rfl, Nat.lt_of_lt_of_le hl hB.size, fun j x hx => ?_⟩
    obtain ⟨c0, c1⟩ := hc j x hx
    exact ⟨(hB.cell (p := ⟨b, _, none⟩) hl).trans c0, (hB.cell (p := ⟨b, _, none⟩) hl).trans c1⟩
/-- A slice that reads as threads' buffers. -/
def BfAt (W : World) (a : Option Addr) (n : Nat) (t : List (List Pd)) : Prop :=
  n = t.length ∧ (t = [] ∨ ∃ b o, a = some ⟨b, o, none⟩ ∧ b < W.heap.size ∧ ∀ j c, t[j]? = some c → ∃ a' n' c', W.cell? ⟨b, o + j, none⟩ = some (.slice a' n' c') ∧ n' ≤ c' ∧ PdAt W a' n' c)
theorem BfAt.below {W W' : World} {a : Option Addr} {n : Nat} {t : List (List Pd)} (h : BfAt W a n t) (hB : Below W.heap.size W W') : BfAt W' a n t := by
  refine ⟨h.1, ?_⟩
  rcases h.2 with h | ⟨b, o, rfl, hl, hc⟩
  · exact .inl h
  · refine .inr ⟨b, o, rfl, Nat.lt_of_lt_of_le hl hB.size, fun j c hj => ?_⟩
    obtain ⟨a', n', c', h1, h2, h3⟩ := hc j c hj
    exact ⟨a', n', c', (hB.cell (p := ⟨b, _, none⟩) hl).trans h1, h2, h3.below hB⟩
theorem BfAt.at {W : World} {a : Option Addr} {n : Nat} {t : List (List Pd)} (h : BfAt W a n t) {i : Nat} {c : List Pd} (hi : t[i]? = some c) : ∃ b o a' n' c', a = some ⟨b, o, none⟩ ∧ b < W.heap.size ∧ W.cell? ⟨b, o + i, none⟩ = some (.slice a' n' c') ∧ n' = c.length ∧ PdAt W a' n' c := by
  obtain ⟨b, o, rfl, hb, hc⟩ := h.2.resolve_left (by intro e; rw [e] at hi; simp at hi)
  obtain ⟨a', n', c', h1, h2, h3⟩ := hc i c hi
  exact ⟨b, o, a', n', c', rfl, hb, h1, h3.1, h3⟩
/-- A state's value in the world. -/
structure SvAt (W : World) (v : Array Value) (s : Sv) (nw nr np nb : Nat) : Prop where
  ex : ∃ a1 c1 a2 c2 a3 c3 a4 c4, v = #[.slice a1 nw c1, .slice a2 nr c2, .slice a3 np c3, .slice a4 nb c4] ∧ IsAt W a1 nw s.ws ∧ RgAt W a2 nr s.rg ∧ IsAt W a3 np s.pl ∧ BfAt W a4 nb s.bf
set_option maxHeartbeats 16000000 in
theorem sameState_eq (s : Sv) (v v' : Array Value) (nw nr np nb : Nat) (w : World) (h1 : SvAt w v s nw nr np nb) (h2 : SvAt w v' s nw nr np nb) (hb1 : nw ≤ 1000000000000000000) (hb2 : nr ≤ 1000000000000000000) (hb3 : np ≤ 1000000000000000000) (hb4 : nb ≤ 1000000000000000000) (hcl : ∀ c ∈ s.bf, c.length ≤ 1000000000000000000) :
    Calls Tryd.prog 8 #[.agg v, .agg v'] w fun e w' => e = .returned (.bool true) ∧ Below w.heap.size w w' := by
  obtain ⟨a1, c1, a2, c2, a3, c3, a4, c4, rfl, i1, i2, i3, i4⟩ := h1.ex
  obtain ⟨d1, e1, d2, e2, d3, e3, d4, e4, rfl, j1, j2, j3, j4⟩ := h2.ex
  have z1 : ((nr : Int) != (nr : Int)) = false := by simp
  have z2 : ((nb : Int) != (nb : Int)) = false := by simp
  have hlr := Mr.hid i2.1
  have hlb := Mr.hid i4.1
  have SW : Hid (∀ W, Below w.heap.size w W → Calls Tryd.prog 26 #[.slice a1 nw c1, .slice d1 nw e1] W fun e w' => e = .returned (.bool true) ∧ Below W.heap.size W w') := fun W hB => sameInts_eq s.ws a1 d1 nw c1 e1 W (i1.below hB) (j1.below hB) hb1
  have SP : Hid (∀ W, Below w.heap.size w W → Calls Tryd.prog 26 #[.slice a3 np c3, .slice d3 np e3] W fun e w' => e = .returned (.bool true) ∧ Below W.heap.size W w') := fun W hB => sameInts_eq s.pl a3 d3 np c3 e3 W (i3.below hB) (j3.below hB) hb3
  have hb : Hid (((w.alloc (.cells #[.slice a1 nw c1, .slice a2 nr c2, .slice a3 np c3, .slice a4 nb c4] 32)).alloc (.cells #[.slice d1 nw e1, .slice d2 nr e2, .slice d3 np e3, .slice d4 nb e4] 32)).heap[w.heap.size]? = some (.cells #[.slice a1 nw c1, .slice a2 nr c2, .slice a3 np c3, .slice a4 nb c4] 32 (0, 0))) := (Lib.alloc_old _ _ _ (by simp)).trans (new_at _ _ _ rfl)
  have hb' : Hid (((w.alloc (.cells #[.slice a1 nw c1, .slice a2 nr c2, .slice a3 np c3, .slice a4 nb c4] 32)).alloc (.cells #[.slice d1 nw e1, .slice d2 nr e2, .slice d3 np e3, .slice d4 nb e4] 32)).heap[w.heap.size + 1]? = some (.cells #[.slice d1 nw e1, .slice d2 nr e2, .slice d3 np e3, .slice d4 nb e4] 32 (0, 0))) := new_at _ _ _ (by simp)
  have B0 : Below w.heap.size w ((w.alloc (.cells #[.slice a1 nw c1, .slice a2 nr c2, .slice a3 np c3, .slice a4 nb c4] 32)).alloc (.cells #[.slice d1 nw e1, .slice d2 nr e2, .slice d3 np e3, .slice d4 nb e4] 32)) := ((Below.refl _ _).alloc (Nat.le_refl _) _).alloc (by simp) _
  have S0 := Mr.hid (SW.out _ B0)
  replace B0 := Mr.hid B0
  replace i2 := Mr.hid i2
  replace i4 := Mr.hid i4
  replace j2 := Mr.hid j2
  replace j4 := Mr.hid j4
  replace hcl := Mr.hid hcl
  clear h1 h2 i1 i3 j1 j3 SW hb1 hb3
  go_enter Tryd.func8, Tryd.ntmps8
  go_upto_region 4 with (first | (go_at_call 26; refine S0.out.mono ?_; clear S0; rintro e w2 ⟨rfl, B2⟩; have q0 := (B2.block _ (by simp; omega)).trans hb.out; have q0' := (B2.block _ (by simp)).trans hb'.out; have y1 := cell_blk q0 1; have y2 := cell_blk q0 2; have y3 := cell_blk q0 3; have y1' := cell_blk q0' 1; have y2' := cell_blk q0' 2; have y3' := cell_blk q0' 3; have lq := (Array.getElem?_eq_some_iff.1 q0).1; have lq' := (Array.getElem?_eq_some_iff.1 q0').1; have BB := B0.out.trans (B2.mono B0.out.size); have S1 := Mr.hid (SP.out _ BB); replace BB := Mr.hid BB; replace q0 := Mr.hid q0; replace q0' := Mr.hid q0'; clear B2 SP) | (go_at_call 26; refine S1.out.mono ?_; clear S1; rintro e w3 ⟨rfl, B3⟩; have p0 := (B3.block _ lq).trans q0.out; have p0' := (B3.block _ lq').trans q0'.out; have x1 := cell_blk p0 1; have x3 := cell_blk p0 3; have x1' := cell_blk p0' 1; have x3' := cell_blk p0' 3; have lp := (Array.getElem?_eq_some_iff.1 p0).1; have lp' := (Array.getElem?_eq_some_iff.1 p0').1; have BC := Mr.hid (BB.out.trans (B3.mono BB.out.size)); replace p0 := Mr.hid p0; replace p0' := Mr.hid p0'; clear B3 y1 y2 y3 y1' y2' y3' q0 q0' lq lq' BB))
  clear x1 x1' x3 x3' hb hb' B0
  go_loopg [5] nr (fun gk s5 wr => ∃ i : Nat, s5 = .int .i64 (i : Int) ∧ i + gk = nr ∧ Below w3.heap.size w3 wr)
  case atStart => exact ⟨0, rfl, by omega, Below.refl _ _⟩
  case round =>
    obtain ⟨i, rfl, hi, B⟩ := hrel
    have Bw : Below w.heap.size w wr := BC.out.trans (B.mono BC.out.size)
    have r0 := (B.block _ lp).trans p0.out
    have r0' := (B.block _ lp').trans p0'.out
    have y1 := cell_blk r0 1
    have y1' := cell_blk r0' 1
    have lr := (Array.getElem?_eq_some_iff.1 r0).1
    have lr' := (Array.getElem?_eq_some_iff.1 r0').1
    by_cases hlt : i < nr
    · have hli : i < s.rg.length := by have := hlr.out; omega
      obtain ⟨x, hx⟩ : ∃ x, s.rg[i]? = some x := ⟨s.rg[i], List.getElem?_eq_getElem hli⟩
      have hne : s.rg ≠ [] := by intro e; rw [e] at hli; simp at hli
      obtain ⟨g, o, rfl, hg, hc⟩ := (i2.out.below Bw).2.resolve_left hne
      obtain ⟨g', o', rfl, hg', hc'⟩ := (j2.out.below Bw).2.resolve_left hne
      obtain ⟨m0, m1, m2, m3⟩ := hc i x hx
      obtain ⟨m0', m1', m2', m3'⟩ := hc' i x hx
      obtain ⟨v0, v1, v2, v3⟩ := x
      dsimp only at m0 m1 m2 m3 m0' m1' m2' m3'
      have hlI : (i : Int) < (nr : Int) := by omega
      have dl : decide ((i : Int) < (nr : Int)) = true := by simpa using hlI
      have hw : IntKind.i64.wrap ((i : Int) + 1) = (i : Int) + 1 := i64x _ (by omega) (by omega)
      have hi' := Mr.hid hi
      replace B := Mr.hid B
      have nq4 : ∀ W, (binOp .neq 67 (.agg #[.int .i64 v0, .int .i64 v1, .int .i64 v2, .int .i64 v3]) (.agg #[.int .i64 v0, .int .i64 v1, .int .i64 v2, .int .i64 v3])).run Tryd.prog W = .ok (.bool false) W := fun W => by rw [neq4]; simp
      have ng4 := guard4
      clear hc hc' hx hli hi hne Bw r0 r0'
      go_upto_region 6 with fail
      go_quiet (fail)
      replace B := Mr.hid (B.out.trans ⟨rfl, rfl, rfl, Nat.le_refl _, fun _ _ => rfl⟩ : Below w3.heap.size w3 (wr.drewN nq))
      clear m0 m1 m2 m3 m0' m1' m2' m3' hg hg' y1 y1' lr lr' nq4 ng4
      generalize wr.drewN nq = w6 at *
      go_wp2
      go_roundg (gk - 1)
      case measure => have := hi'.out; omega
      case rel => exact ⟨i + 1, by simp, by have := hi'.out; omega, B.out⟩
    · have dl : decide ((i : Int) < (nr : Int)) = false := decide_eq_false (by omega)
      have dl2 : ¬ (i : Int) < (nr : Int) := by omega
      have y3 := cell_blk r0 3
      have y3' := cell_blk r0' 3
      replace Bw := Mr.hid Bw
      replace r0 := Mr.hid r0
      replace r0' := Mr.hid r0'
      clear hi hlt B
      go_upto_region 9 with fail
      clear dl dl2 y1 y1' y3 y3'
      generalize wr = w4 at *
      go_loopg [6] nb (fun gk s6 wr => ∃ i : Nat, s6 = .int .i64 (i : Int) ∧ i + gk = nb ∧ Below w4.heap.size w4 wr)
      case atStart => exact ⟨0, rfl, by omega, Below.refl _ _⟩
      case round =>
        obtain ⟨i, rfl, hi, B⟩ := hrel
        have Bv : Below w.heap.size w wr := Bw.out.trans (B.mono Bw.out.size)
        have t0 := (B.block _ lr).trans r0.out
        have t0' := (B.block _ lr').trans r0'.out
        have y3 := cell_blk t0 3
        have y3' := cell_blk t0' 3
        have ls := (Array.getElem?_eq_some_iff.1 t0).1
        have ls' := (Array.getElem?_eq_some_iff.1 t0').1
        by_cases hlt : i < nb
        · have hli : i < s.bf.length := by have := hlb.out; omega
          obtain ⟨x, hx⟩ : ∃ x, s.bf[i]? = some x := ⟨s.bf[i], List.getElem?_eq_getElem hli⟩
          obtain ⟨g, o, b1, n1, k1, rfl, hg, m0, f1, hC⟩ := (i4.out.below Bv).at hx
          obtain ⟨g', o', b2, n2, k2, rfl, hg', m0', f2, hC'⟩ := (j4.out.below Bv).at hx
          obtain rfl : n2 = n1 := by omega
          have hxl : Hid (n2 = x.length) := f2
          have hxb : n2 ≤ 1000000000000000000 := by rw [f2]; exact hcl.out x (List.mem_of_getElem? hx)
          have zn : ((n2 : Int) != (n2 : Int)) = false := by simp
          have hlI : (i : Int) < (nb : Int) := by omega
          have dl : decide ((i : Int) < (nb : Int)) = true := by simpa using hlI
          have hw : IntKind.i64.wrap ((i : Int) + 1) = (i : Int) + 1 := i64x _ (by omega) (by omega)
          have hi' := Mr.hid hi
          replace B := Mr.hid B
          replace hC := Mr.hid hC
          replace hC' := Mr.hid hC'
          clear hx hli hi f1 f2 Bv t0 t0'
          go_upto_region 11 with fail
          go_quiet (fail)
          have B6 : Hid (Below w4.heap.size w4 (wr.drewN nq)) := B.out.trans ⟨rfl, rfl, rfl, Nat.le_refl _, fun _ _ => rfl⟩
          have hC6 : Hid (PdAt (wr.drewN nq) b1 n2 x) := hC.out.below ⟨rfl, rfl, rfl, Nat.le_refl _, fun _ _ => rfl⟩
          have hC6' : Hid (PdAt (wr.drewN nq) b2 n2 x) := hC'.out.below ⟨rfl, rfl, rfl, Nat.le_refl _, fun _ _ => rfl⟩
          replace m0 : (wr.drewN nq).cell? ⟨g, o + i, none⟩ = _ := m0
          replace m0' : (wr.drewN nq).cell? ⟨g', o' + i, none⟩ = _ := m0'
          replace y3 : (wr.drewN nq).cell? ⟨w.heap.size, 3, none⟩ = _ := y3
          replace y3' : (wr.drewN nq).cell? ⟨w.heap.size + 1, 3, none⟩ = _ := y3'
          replace ls : w.heap.size < (wr.drewN nq).heap.size := ls
          replace ls' : w.heap.size + 1 < (wr.drewN nq).heap.size := ls'
          replace hg : g < (wr.drewN nq).heap.size := hg
          replace hg' : g' < (wr.drewN nq).heap.size := hg'
          clear hC hC' B
          generalize wr.drewN nq = w6 at *
          go_upto_region 14 with fail
          clear dl zn
          go_loopg [7] n2 (fun gk s7 wr => ∃ k : Nat, s7 = .int .i64 (k : Int) ∧ k + gk = n2 ∧ Below w6.heap.size w6 wr)
          case atStart => exact ⟨0, rfl, by omega, Below.refl _ _⟩
          case round =>
            obtain ⟨k, rfl, hk, Bk⟩ := hrel
            have v0 : wr.cell? ⟨g, o + i, none⟩ = some (.slice b1 n2 k1) := (Bk.cell (p := ⟨g, _, none⟩) hg).trans m0
            have v0' : wr.cell? ⟨g', o' + i, none⟩ = some (.slice b2 n2 k2) := (Bk.cell (p := ⟨g', _, none⟩) hg').trans m0'
            have v1 := (Bk.cell (p := ⟨w.heap.size, 3, none⟩) ls).trans y3
            have v1' := (Bk.cell (p := ⟨w.heap.size + 1, 3, none⟩) ls').trans y3'
            have mr : w.heap.size < wr.heap.size := Nat.lt_of_lt_of_le ls Bk.size
            have mr' : w.heap.size + 1 < wr.heap.size := Nat.lt_of_lt_of_le ls' Bk.size
            have mg : g < wr.heap.size := Nat.lt_of_lt_of_le hg Bk.size
            have mg' : g' < wr.heap.size := Nat.lt_of_lt_of_le hg' Bk.size
            by_cases hkl : k < n2
            · have hkx : k < x.length := by have := hxl.out; omega
              obtain ⟨y, hy⟩ : ∃ y, x[k]? = some y := ⟨x[k], List.getElem?_eq_getElem hkx⟩
              have hne : x ≠ [] := by intro e; rw [e] at hkx; simp at hkx
              obtain ⟨f1, o1, rfl, hf1, hc1⟩ := (hC6.out.below Bk).2.resolve_left hne
              obtain ⟨f2, o2, rfl, hf2, hc2⟩ := (hC6'.out.below Bk).2.resolve_left hne
              obtain ⟨u0, u1'⟩ := hc1 k y hy
              obtain ⟨t0, t1'⟩ := hc2 k y hy
              obtain ⟨pa, pv⟩ := y
              dsimp only at u0 u1' t0 t1'
              have U0 := u0
              have U1 := u1'
              have hkI : (k : Int) < (n2 : Int) := by omega
              have dk : decide ((k : Int) < (n2 : Int)) = true := by simpa using hkI
              have hwk : IntKind.i64.wrap ((k : Int) + 1) = (k : Int) + 1 := i64x _ (by omega) (by omega)
              have hk' := Mr.hid hk
              replace Bk := Mr.hid Bk
              clear hc1 hc2 hy hkx hk hne u0 u1'
              go_upto_region 16 with fail
              go_quiet (fail)
              replace Bk := Mr.hid (Bk.out.trans ⟨rfl, rfl, rfl, Nat.le_refl _, fun _ _ => rfl⟩ : Below w6.heap.size w6 (wr.drewN nq))
              clear U0 U1 t0 t1' v0 v0' v1 v1' mr mr' mg mg' hf1 hf2
              generalize wr.drewN nq = w7 at *
              go_wp2
              go_roundg (gk - 1)
              case measure => have := hk'.out; omega
              case rel => exact ⟨k + 1, by simp, by have := hk'.out; omega, Bk.out⟩
            · have dk : decide ((k : Int) < (n2 : Int)) = false := decide_eq_false (by omega)
              have dk2 : ¬ (k : Int) < (n2 : Int) := by omega
              have B7 := Mr.hid (B6.out.trans (Bk.mono B6.out.size))
              clear hk hkl Bk
              go_wp2
              go_roundg (nb - (i + 1))
              case measure => have := hi'.out; omega
              case rel => exact ⟨i + 1, by simp, by have := hi'.out; omega, B7.out⟩
        · have dl : decide ((i : Int) < (nb : Int)) = false := decide_eq_false (by omega)
          have dl2 : ¬ (i : Int) < (nb : Int) := by omega
          replace Bv := Mr.hid Bv
          clear hi hlt t0 t0' B
          go_wp2
          go_ret
          exact ⟨rfl, Bv.out⟩
end Go.Proofs.YtmejblmeaipahaaDoor.Ts
