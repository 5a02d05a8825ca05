import Derived.Test.YtmejblmeaipahaaDoorJ14
/-
  TSO: the program's instruction.
-/
namespace Go.Proofs.YtmejblmeaipahaaDoor.Ts
open Go.RowKit Mr
set_option linter.unusedVariables false
set_option linter.unusedSimpArgs false
set_option maxRecDepth 100000
theorem RuP.no {s : Sv} {t : Nat} {e : Ending} {P : Sv → Prop} (h : RuP none s t e P) : e = .returned (.bool false) ∧ P s := by
  rcases h with ⟨_, h1, h2⟩ | ⟨y, h0, _⟩
  · exact ⟨h1, h2⟩
  · cases h0
theorem RuP.yes {s : Sv} {t : Nat} {x : Th} {e : Ending} {P : Sv → Prop} (h : RuP (some x) s t e P) : e = .returned (.bool true) ∧ P (upd s t x) := by
  rcases h with ⟨h0, _⟩ | ⟨y, h0, h1, h2⟩
  · cases h0
  · cases h0; exact ⟨h1, h2⟩
/-- An instruction of a thread's code. -/
theorem CdAt.at {W : World} {a : Option Addr} {n : Nat} {c : List In} (h : CdAt W a n c) {k : Nat} {i : In} (hk : c[k]? = some i) : ∃ g q, a = some ⟨g, q, none⟩ ∧ g < W.heap.size ∧ W.cell? ⟨g, q + k * 7, none⟩ = some (.int .i64 i.kd) ∧ W.cell? ⟨g, q + k * 7 + 1, none⟩ = some (.int .i64 i.rg) ∧ W.cell? ⟨g, q + k * 7 + 2, none⟩ = some (.int .i64 i.ad) ∧ W.cell? ⟨g, q + k * 7 + 3, none⟩ = some (.int .i64 i.vl) ∧ W.cell? ⟨g, q + k * 7 + 4, none⟩ = some (.int .i64 i.fr) ∧ W.cell? ⟨g, q + k * 7 + 5, none⟩ = some (.int .i64 i.ol) ∧ W.cell? ⟨g, q + k * 7 + 6, none⟩ = some (.int .i64 i.ct) := by
  obtain ⟨b, o, rfl, hb, hc⟩ := h.2.resolve_left (by intro e; rw [e] at hk; simp at hk)
  exact ⟨b, o, rfl, hb, hc k i hk 0 _ rfl, hc k i hk 1 _ rfl, hc k i hk 2 _ rfl, hc k i hk 3 _ rfl, hc k i hk 4 _ rfl, hc k i hk 5 _ rfl, hc k i hk 6 _ rfl⟩
/-- What the walks of instruction lean on, but for the rule. -/
structure Ipre (s : Sv) (R b t : Nat) (o : Int) (sw st : Value) (r : Rg) (pc : Nat) (bf : List Pd) (cs : Array Value) (a : Option Addr) (n k : Nat) (c : List In) (w : World) : Prop where
  A : Ar w b cs
  E : Enc cs s
  t4 : t < 4
  v : Vw s t r (pc : Int) bf
  bl : bf.length ≤ 10
  w6 : s.ws.length ≤ 6
  fit : ∀ i ∈ c, fitB (s.ws.length : Int) i = true
  run : w.heap[R]? = some (.cells (rnV sw st o) 84 (0, 0))
  cd : CdAt w a n c
  n10 : n ≤ 10
  pc1 : pc ≤ n
  nR : R ≠ b
theorem fr_cell {W W' : World} {b k j : Nat} (h : Fr W W' (fun k => k = b)) (hk : k < W.heap.size) (hne : k ≠ b) : W'.cell? ⟨k, j, none⟩ = W.cell? ⟨k, j, none⟩ := World.cell?_of_block (a := ⟨k, j, none⟩) (h.block k hk hne)
theorem stp_pc {o : Int} {i : In} {x y : Th} {nw : Int} (hf : fitB nw i = true) (hx : 0 ≤ x.pc ∧ x.pc ≤ 10) (h : stp o i x = some y) : 0 ≤ y.pc ∧ y.pc ≤ 1000 := by
  have hc : i.kd = 7 → 0 ≤ i.ct ∧ i.ct ≤ 10 := fun h3 => by simp [fitB, inB, h3] at hf; omega
  have hk : 1 ≤ i.kd ∧ i.kd ≤ 7 := by simp only [fitB, inB, Bool.and_eq_true, decide_eq_true_eq] at hf; omega
  unfold stp at h
  repeat' split at h
  all_goals first | (cases h; done) | (cases h; omega) | (cases h; dsimp only; omega)
set_option maxHeartbeats 8000000 in
theorem inst_end (s : Sv) (R b t : Nat) (o : Int) (sw st : Value) (r : Rg) (pc : Nat) (bf : List Pd) (cs : Array Value) (a : Option Addr) (n k : Nat) (c : List In) (w : World) (h : Ipre s R b t o sw st r pc bf cs a n k c w) (hpc : pc = n) :
    Calls Tryd.prog 38 #[.pointer (some ⟨R, 0, none⟩), ptV b t o, .slice a n k] w fun e w' => RuP (ins o c (vw s t)) s t e (fun s' => (∃ cs', Ar w' b cs' ∧ Enc cs' s') ∧ Fr w w' (fun k => k = b)) := by
  have B0 : Below w.heap.size w (w.alloc (.cells #[.pointer (some ⟨b, 0, none⟩), .int .i64 (t : Int), .int .i64 o] 88)) := (Below.refl _ _).alloc (Nat.le_refl _) _
  have hA1 := h.A.below B0
  have PL := Mr.hid (place_any b t cs _ hA1 h.t4)
  have c0 := (cell_blk hA1.1 (22 + t)).trans (h.E.plc h.v.p h.t4)
  have la := (Array.getElem?_eq_some_iff.1 hA1.1).1
  have hx : ins o c (vw s t) = none := by
    unfold ins
    rw [h.v.vw]
    dsimp only
    rw [Int.toNat_natCast, List.getElem?_eq_none (by have := h.cd.1; omega)]
  have hfin : Hid (RuP (ins o c (vw s t)) s t (.returned (.bool false)) (fun s' => (∃ cs', Ar (w.alloc (.cells #[.pointer (some ⟨b, 0, none⟩), .int .i64 (t : Int), .int .i64 o] 88)) b cs' ∧ Enc cs' s') ∧ Fr w (w.alloc (.cells #[.pointer (some ⟨b, 0, none⟩), .int .i64 (t : Int), .int .i64 o] 88)) (fun k => k = b))) := .inl ⟨hx, rfl, ⟨cs, hA1, h.E⟩, Fr.of_below B0⟩
  have dq : ((pc : Int) == (n : Int)) = true := by rw [hpc]; simp
  replace hpc := Mr.hid hpc
  clear h hx hA1 B0
  unfold ptV
  generalize 22 + t = q at c0 PL
  go_enter Tryd.func38, Tryd.ntmps38
  go_wp2_with (go_at_call 40; refine PL.out.mono ?_; clear PL; rintro e w9 ⟨rfl, hw9⟩; obtain rfl := hw9.symm)
  go_ret
  exact hfin.out
end Go.Proofs.YtmejblmeaipahaaDoor.Ts
/-
  TSO: the program's instruction.
-/
namespace Go.Proofs.YtmejblmeaipahaaDoor.Ts
open Go.RowKit Mr
set_option linter.unusedVariables false
set_option linter.unusedSimpArgs false
set_option maxRecDepth 100000
set_option maxHeartbeats 16000000 in
theorem inst_1 (s : Sv) (R b t : Nat) (o kd rg ad vl fr ol ct : Int) (sw st : Value) (r : Rg) (pc : Nat) (bf : List Pd) (cs : Array Value) (a : Option Addr) (n k : Nat) (c : List In) (w : World) (h : Ipre s R b t o sw st r pc bf cs a n k c w) (hi : c[pc]? = some ⟨kd, rg, ad, vl, fr, ol, ct⟩) (hk : kd = 1) :
    Calls Tryd.prog 38 #[.pointer (some ⟨R, 0, none⟩), ptV b t o, .slice a n k] w fun e w' => RuP (ins o c (vw s t)) s t e (fun s' => (∃ cs', Ar w' b cs' ∧ Enc cs' s') ∧ Fr w w' (fun k => k = b)) := by
  have B0 : Below w.heap.size w (w.alloc (.cells #[.pointer (some ⟨b, 0, none⟩), .int .i64 (t : Int), .int .i64 o] 88)) := (Below.refl _ _).alloc (Nat.le_refl _) _
  have hp1 : (w.alloc (.cells #[.pointer (some ⟨b, 0, none⟩), .int .i64 (t : Int), .int .i64 o] 88)).heap[w.heap.size]? = some (.cells #[.pointer (some ⟨b, 0, none⟩), .int .i64 (t : Int), .int .i64 o] 88 (0, 0)) := new_at _ _ _ rfl
  have B1 : Below w.heap.size w ((w.alloc (.cells #[.pointer (some ⟨b, 0, none⟩), .int .i64 (t : Int), .int .i64 o] 88)).alloc (.cells #[.int .i64 kd, .int .i64 rg, .int .i64 ad, .int .i64 vl, .int .i64 fr, .int .i64 ol, .int .i64 ct] 73)) := B0.alloc (by simp) _
  have hA1 := h.A.below B0
  have hA2 := h.A.below B1
  have PL := Mr.hid (place_any b t cs _ hA1 h.t4)
  have c0 := (cell_blk hA1.1 (22 + t)).trans (h.E.plc h.v.p h.t4)
  have la := (Array.getElem?_eq_some_iff.1 hA1.1).1
  have lb := (Array.getElem?_eq_some_iff.1 h.A.1).1
  have hpl : pc < n := by have := (List.getElem?_eq_some_iff.1 hi).1; have := h.cd.1; omega
  have dq : ((pc : Int) == (n : Int)) = false := beq_eq_false_iff_ne.2 (by omega)
  have lpI : (pc : Int) < (n : Int) := by omega
  have cd1 := h.cd.below B0
  obtain ⟨g, q, rfl, hg, d0, d1, d2, d3, d4, d5, d6⟩ := cd1.at hi
  dsimp only at d0 d1 d2 d3 d4 d5 d6
  have hcl := h.cd.1
  have hpi := (Array.getElem?_eq_some_iff.1 h.run).1
  have hp2 : ((w.alloc (.cells #[.pointer (some ⟨b, 0, none⟩), .int .i64 (t : Int), .int .i64 o] 88)).alloc (.cells #[.int .i64 kd, .int .i64 rg, .int .i64 ad, .int .i64 vl, .int .i64 fr, .int .i64 ol, .int .i64 ct] 73)).heap[w.heap.size]? = some (.cells #[.pointer (some ⟨b, 0, none⟩), .int .i64 (t : Int), .int .i64 o] 88 (0, 0)) := (Lib.alloc_old _ _ _ (by simp)).trans hp1
  have hi2 : ((w.alloc (.cells #[.pointer (some ⟨b, 0, none⟩), .int .i64 (t : Int), .int .i64 o] 88)).alloc (.cells #[.int .i64 kd, .int .i64 rg, .int .i64 ad, .int .i64 vl, .int .i64 fr, .int .i64 ol, .int .i64 ct] 73)).heap[w.heap.size + 1]? = some (.cells #[.int .i64 kd, .int .i64 rg, .int .i64 ad, .int .i64 vl, .int .i64 fr, .int .i64 ol, .int .i64 ct] 73 (0, 0)) := new_at _ _ _ (by simp)
  have hr2 := (B1.block R hpi).trans h.run
  have RU : Hid (∀ W : World, Below w.heap.size w W → Calls Tryd.prog 47 #[ptV b t o, (⟨kd, rg, ad, vl, fr, ol, ct⟩ : In).val] W fun e w' => RuP (stp o ⟨kd, rg, ad, vl, fr, ol, ct⟩ (vw s t)) s t e (fun s' => (∃ cs', Ar w' b cs' ∧ Enc cs' s') ∧ Fr W w' (fun k => k = b))) := fun W hW => rule1 (pc := (pc : Int)) ⟨h.A.below hW, h.E, h.t4, h.v, h.bl, h.w6, by have := h.n10; omega, h.fit _ (List.mem_of_getElem? hi)⟩ hk
  have hxn : Hid (stp o ⟨kd, rg, ad, vl, fr, ol, ct⟩ (vw s t) = none → ins o c (vw s t) = none) := fun e => by
    unfold ins; rw [h.v.vw] at e ⊢; dsimp only; rw [Int.toNat_natCast, hi]; dsimp only; rw [e]; rfl
  have hxs : Hid (∀ y, stp o ⟨kd, rg, ad, vl, fr, ol, ct⟩ (vw s t) = some y → ins o c (vw s t) = some { y with pc := min (y.pc + 1) (n : Int) }) := fun y e => by
    unfold ins; rw [h.v.vw] at e ⊢; dsimp only; rw [Int.toNat_natCast, hi]; dsimp only; rw [e, hcl]; rfl
  have hyb : Hid (∀ y, stp o ⟨kd, rg, ad, vl, fr, ol, ct⟩ (vw s t) = some y → 0 ≤ y.pc ∧ y.pc ≤ 1000) := fun y e => stp_pc (h.fit _ (List.mem_of_getElem? hi)) (by rw [h.v.vw]; dsimp only; have := h.n10; have := h.pc1; omega) e
  have hps : t < s.pl.length := (List.getElem?_eq_some_iff.1 h.v.p).1
  have ht4 := h.t4
  have PLW : Hid (∀ (W : World) (y : Th) (cs' : Array Value), Ar W b cs' → Enc cs' (upd s t y) → W.cell? ⟨b, 22 + t, none⟩ = some (.int .i64 y.pc) ∧ W.frozen? ⟨b, 22 + t, none⟩ = false ∧ b < W.heap.size ∧ Ar (W.setCell ⟨b, 22 + t, none⟩ (.int .i64 (min (y.pc + 1) (n : Int)))) b (cs'.setIfInBounds (22 + t) (.int .i64 (min (y.pc + 1) (n : Int)))) ∧ Enc (cs'.setIfInBounds (22 + t) (.int .i64 (min (y.pc + 1) (n : Int)))) (upd s t { y with pc := min (y.pc + 1) (n : Int) })) := fun W y cs' hA' hE' => by
    have e1 : (upd s t y).pl[t]? = some y.pc := by simp [upd, List.getElem?_set, hps]
    refine ⟨(cell_blk hA'.1 _).trans (hE'.plc e1 ht4), by unfold World.frozen?; rw [hA'.1]; rfl, (Array.getElem?_eq_some_iff.1 hA'.1).1, hA'.set _ _, ?_⟩
    have h9 := hE'.set (s' := { upd s t y with pl := (upd s t y).pl.set t (min (y.pc + 1) (n : Int)) }) (i := 22 + t) (v := min (y.pc + 1) (n : Int)) (by omega) (fun j hj => enc_pl (upd s t y) j t _ (by simpa [upd] using hps) ht4)
    have e2 : ({ upd s t y with pl := (upd s t y).pl.set t (min (y.pc + 1) (n : Int)) } : Sv) = upd s t { y with pc := min (y.pc + 1) (n : Int) } := by simp [upd, List.set_set]
    rw [e2] at h9
    exact h9
  have m0 := cell_blk hp2 0
  have m1 := cell_blk hp2 1
  have m2 := cell_blk hp2 2
  have j0 := cell_blk hi2 0
  have j1 := cell_blk hi2 1
  have j2 := cell_blk hi2 2
  have j3 := cell_blk hi2 3
  have j4 := cell_blk hi2 4
  have j5 := cell_blk hi2 5
  have j6 := cell_blk hi2 6
  have r0 := cell_blk hr2 4
  have n10 := h.n10
  have l2 := (Array.getElem?_eq_some_iff.1 hp2).1
  have l3 := (Array.getElem?_eq_some_iff.1 hi2).1
  have l4 := (Array.getElem?_eq_some_iff.1 hr2).1
  simp only [rnV, fnV, List.getElem?_toArray, List.getElem?_cons_zero, List.getElem?_cons_succ] at r0
  have nR := h.nR
  subst hk
  replace B1 := Mr.hid B1
  replace B0 := Mr.hid B0
  replace hcl := Mr.hid hcl
  clear h hA1 hA2 hi hp1 hp2 hi2 hr2 cd1 hps
  unfold ptV
  generalize hq2 : 22 + t = q2 at *
  replace hq2 := Mr.hid hq2
  cases hst : stp o ⟨1, rg, ad, vl, fr, ol, ct⟩ (vw s t) with
  | none =>
    rw [hst] at RU
    have hno := Mr.hid (hxn.out hst)
    replace hst := Mr.hid hst
    clear hxs hyb PLW hxn
    go_enter Tryd.func38, Tryd.ntmps38
    go_upto_region 5 with (go_at_call 40; refine PL.out.mono ?_; clear PL; rintro e w9 ⟨rfl, hw9⟩; obtain rfl := hw9.symm)
    clear d0 d1 d2 d3 d4 d5 d6 c0 la hg
    generalize ((w.alloc (.cells #[.pointer (some ⟨b, 0, none⟩), .int .i64 (t : Int), .int .i64 o] 88)).alloc (.cells #[.int .i64 1, .int .i64 rg, .int .i64 ad, .int .i64 vl, .int .i64 fr, .int .i64 ol, .int .i64 ct] 73)) = w2 at *
    have hH1 : w.heap.size + 1 ≠ b := by omega
    go_region_held3 (fun W => W.cell? ⟨w.heap.size, 0, none⟩ = some (.pointer (some ⟨b, 0, none⟩)) ∧ W.cell? ⟨w.heap.size, 1, none⟩ = some (.int .i64 (t : Int)) ∧ W.cell? ⟨w.heap.size, 2, none⟩ = some (.int .i64 o) ∧ W.cell? ⟨w.heap.size + 1, 0, none⟩ = some (.int .i64 1) ∧ W.cell? ⟨w.heap.size + 1, 1, none⟩ = some (.int .i64 rg) ∧ W.cell? ⟨w.heap.size + 1, 2, none⟩ = some (.int .i64 ad) ∧ W.cell? ⟨w.heap.size + 1, 3, none⟩ = some (.int .i64 vl) ∧ W.cell? ⟨w.heap.size + 1, 4, none⟩ = some (.int .i64 fr) ∧ W.cell? ⟨w.heap.size + 1, 5, none⟩ = some (.int .i64 ol) ∧ W.cell? ⟨w.heap.size + 1, 6, none⟩ = some (.int .i64 ct) ∧ W.cell? ⟨R, 4, none⟩ = some (.func (.func 47) #[] #[])) (simp [*, go_sem])
      (first | (go_at_call 47; refine (RU.out _ B1.out.drew).mono ?_; clear RU; rintro e w4 D; have D' := RuP.no D; clear D; obtain ⟨rfl, D1, D2⟩ := D'; have z0 := (fr_cell (k := w.heap.size) (j := 0) D2 l2 (by omega)).trans m0; have z1 := (fr_cell (k := w.heap.size) (j := 1) D2 l2 (by omega)).trans m1; have z2 := (fr_cell (k := w.heap.size) (j := 2) D2 l2 (by omega)).trans m2; have i0 := (fr_cell (k := w.heap.size + 1) (j := 0) D2 l3 hH1).trans j0; have i1 := (fr_cell (k := w.heap.size + 1) (j := 1) D2 l3 hH1).trans j1; have i2 := (fr_cell (k := w.heap.size + 1) (j := 2) D2 l3 hH1).trans j2; have i3 := (fr_cell (k := w.heap.size + 1) (j := 3) D2 l3 hH1).trans j3; have i4 := (fr_cell (k := w.heap.size + 1) (j := 4) D2 l3 hH1).trans j4; have i5 := (fr_cell (k := w.heap.size + 1) (j := 5) D2 l3 hH1).trans j5; have i6 := (fr_cell (k := w.heap.size + 1) (j := 6) D2 l3 hH1).trans j6; have zr := (fr_cell (k := R) (j := 4) D2 l4 nR).trans r0; replace D1 := Mr.hid D1; replace D2 := Mr.hid (fr_two (Fr.of_below B1.out.drew) D2)))
    go_wp2
    go_ret
    exact .inl ⟨hno.out, rfl, D1.out, D2.out⟩
  | some y =>
    rw [hst] at RU
    have hyes := Mr.hid (hxs.out y hst)
    obtain ⟨y0, y1⟩ := hyb.out y hst
    have hwy : IntKind.i64.wrap (y.pc + 1) = y.pc + 1 := i64x _ (by omega) (by omega)
    replace hst := Mr.hid hst
    clear hxs hyb hxn
    go_enter Tryd.func38, Tryd.ntmps38
    go_upto_region 5 with (go_at_call 40; refine PL.out.mono ?_; clear PL; rintro e w9 ⟨rfl, hw9⟩; obtain rfl := hw9.symm)
    clear d0 d1 d2 d3 d4 d5 d6 c0 la hg
    generalize ((w.alloc (.cells #[.pointer (some ⟨b, 0, none⟩), .int .i64 (t : Int), .int .i64 o] 88)).alloc (.cells #[.int .i64 1, .int .i64 rg, .int .i64 ad, .int .i64 vl, .int .i64 fr, .int .i64 ol, .int .i64 ct] 73)) = w2 at *
    have hH1 : w.heap.size + 1 ≠ b := by omega
    go_region_held3 (fun W => W.cell? ⟨w.heap.size, 0, none⟩ = some (.pointer (some ⟨b, 0, none⟩)) ∧ W.cell? ⟨w.heap.size, 1, none⟩ = some (.int .i64 (t : Int)) ∧ W.cell? ⟨w.heap.size, 2, none⟩ = some (.int .i64 o) ∧ W.cell? ⟨w.heap.size + 1, 0, none⟩ = some (.int .i64 1) ∧ W.cell? ⟨w.heap.size + 1, 1, none⟩ = some (.int .i64 rg) ∧ W.cell? ⟨w.heap.size + 1, 2, none⟩ = some (.int .i64 ad) ∧ W.cell? ⟨w.heap.size + 1, 3, none⟩ = some (.int .i64 vl) ∧ W.cell? ⟨w.heap.size + 1, 4, none⟩ = some (.int .i64 fr) ∧ W.cell? ⟨w.heap.size + 1, 5, none⟩ = some (.int .i64 ol) ∧ W.cell? ⟨w.heap.size + 1, 6, none⟩ = some (.int .i64 ct) ∧ W.cell? ⟨R, 4, none⟩ = some (.func (.func 47) #[] #[])) (simp [*, go_sem])
      (first | (go_at_call 47; refine (RU.out _ B1.out.drew).mono ?_; clear RU; rintro e w4 D; have D' := RuP.yes D; clear D; obtain ⟨rfl, D1, D2⟩ := D'; have z0 := (fr_cell (k := w.heap.size) (j := 0) D2 l2 (by omega)).trans m0; have z1 := (fr_cell (k := w.heap.size) (j := 1) D2 l2 (by omega)).trans m1; have z2 := (fr_cell (k := w.heap.size) (j := 2) D2 l2 (by omega)).trans m2; have i0 := (fr_cell (k := w.heap.size + 1) (j := 0) D2 l3 hH1).trans j0; have i1 := (fr_cell (k := w.heap.size + 1) (j := 1) D2 l3 hH1).trans j1; have i2 := (fr_cell (k := w.heap.size + 1) (j := 2) D2 l3 hH1).trans j2; have i3 := (fr_cell (k := w.heap.size + 1) (j := 3) D2 l3 hH1).trans j3; have i4 := (fr_cell (k := w.heap.size + 1) (j := 4) D2 l3 hH1).trans j4; have i5 := (fr_cell (k := w.heap.size + 1) (j := 5) D2 l3 hH1).trans j5; have i6 := (fr_cell (k := w.heap.size + 1) (j := 6) D2 l3 hH1).trans j6; have zr := (fr_cell (k := R) (j := 4) D2 l4 nR).trans r0; replace D1 := Mr.hid D1; replace D2 := Mr.hid (fr_two (Fr.of_below B1.out.drew) D2)))
    obtain ⟨cs4, hA4, hE4⟩ := D1.out
    obtain ⟨x1, x2, x3, x4, x5⟩ := PLW.out w4 y cs4 hA4 hE4
    replace x4 := Mr.hid x4
    replace x5 := Mr.hid x5
    clear D1 hA4 hE4 PLW y0 y1
    clear z0 z1 z2 i0 i1 i2 i3 i4 i5 i6 zr m0 m1 m2 j0 j1 j2 j3 j4 j5 j6 r0 hH1
    generalize hyp : y.pc = yp at *
    replace hyp := Mr.hid hyp
    have hle : ((yp + 1 ≤ (n : Int)) ∨ ¬ (yp + 1 ≤ (n : Int))) := Decidable.em _
    rcases hle with hle | hle
    · have hmn : min (yp + 1) (n : Int) = yp + 1 := by omega
      have hlt : ¬ (n : Int) < yp + 1 := by omega
      rw [hmn] at hyes x4 x5
      go_wp2
      go_ret
      exact .inr ⟨_, hyes.out, rfl, ⟨_, x4.out, x5.out⟩, D2.out.setCell _ _ (.inl rfl)⟩
    · have hmn : min (yp + 1) (n : Int) = (n : Int) := by omega
      have hlt : (n : Int) < yp + 1 := by omega
      rw [hmn] at hyes x4 x5
      go_wp2
      go_ret
      exact .inr ⟨_, hyes.out, rfl, ⟨_, x4.out, x5.out⟩, D2.out.setCell _ _ (.inl rfl)⟩
set_option maxHeartbeats 16000000 in
theorem inst_2 (s : Sv) (R b t : Nat) (o kd rg ad vl fr ol ct : Int) (sw st : Value) (r : Rg) (pc : Nat) (bf : List Pd) (cs : Array Value) (a : Option Addr) (n k : Nat) (c : List In) (w : World) (h : Ipre s R b t o sw st r pc bf cs a n k c w) (hi : c[pc]? = some ⟨kd, rg, ad, vl, fr, ol, ct⟩) (hk : kd = 2) :
    Calls Tryd.prog 38 #[.pointer (some ⟨R, 0, none⟩), ptV b t o, .slice a n k] w fun e w' => RuP (ins o c (vw s t)) s t e (fun s' => (∃ cs', Ar w' b cs' ∧ Enc cs' s') ∧ Fr w w' (fun k => k = b)) := by
  have B0 : Below w.heap.size w (w.alloc (.cells #[.pointer (some ⟨b, 0, none⟩), .int .i64 (t : Int), .int .i64 o] 88)) := (Below.refl _ _).alloc (Nat.le_refl _) _
  have hp1 : (w.alloc (.cells #[.pointer (some ⟨b, 0, none⟩), .int .i64 (t : Int), .int .i64 o] 88)).heap[w.heap.size]? = some (.cells #[.pointer (some ⟨b, 0, none⟩), .int .i64 (t : Int), .int .i64 o] 88 (0, 0)) := new_at _ _ _ rfl
  have B1 : Below w.heap.size w ((w.alloc (.cells #[.pointer (some ⟨b, 0, none⟩), .int .i64 (t : Int), .int .i64 o] 88)).alloc (.cells #[.int .i64 kd, .int .i64 rg, .int .i64 ad, .int .i64 vl, .int .i64 fr, .int .i64 ol, .int .i64 ct] 73)) := B0.alloc (by simp) _
  have hA1 := h.A.below B0
  have hA2 := h.A.below B1
  have PL := Mr.hid (place_any b t cs _ hA1 h.t4)
  have c0 := (cell_blk hA1.1 (22 + t)).trans (h.E.plc h.v.p h.t4)
  have la := (Array.getElem?_eq_some_iff.1 hA1.1).1
  have lb := (Array.getElem?_eq_some_iff.1 h.A.1).1
  have hpl : pc < n := by have := (List.getElem?_eq_some_iff.1 hi).1; have := h.cd.1; omega
  have dq : ((pc : Int) == (n : Int)) = false := beq_eq_false_iff_ne.2 (by omega)
  have lpI : (pc : Int) < (n : Int) := by omega
  have cd1 := h.cd.below B0
  obtain ⟨g, q, rfl, hg, d0, d1, d2, d3, d4, d5, d6⟩ := cd1.at hi
  dsimp only at d0 d1 d2 d3 d4 d5 d6
  have hcl := h.cd.1
  have hpi := (Array.getElem?_eq_some_iff.1 h.run).1
  have hp2 : ((w.alloc (.cells #[.pointer (some ⟨b, 0, none⟩), .int .i64 (t : Int), .int .i64 o] 88)).alloc (.cells #[.int .i64 kd, .int .i64 rg, .int .i64 ad, .int .i64 vl, .int .i64 fr, .int .i64 ol, .int .i64 ct] 73)).heap[w.heap.size]? = some (.cells #[.pointer (some ⟨b, 0, none⟩), .int .i64 (t : Int), .int .i64 o] 88 (0, 0)) := (Lib.alloc_old _ _ _ (by simp)).trans hp1
  have hi2 : ((w.alloc (.cells #[.pointer (some ⟨b, 0, none⟩), .int .i64 (t : Int), .int .i64 o] 88)).alloc (.cells #[.int .i64 kd, .int .i64 rg, .int .i64 ad, .int .i64 vl, .int .i64 fr, .int .i64 ol, .int .i64 ct] 73)).heap[w.heap.size + 1]? = some (.cells #[.int .i64 kd, .int .i64 rg, .int .i64 ad, .int .i64 vl, .int .i64 fr, .int .i64 ol, .int .i64 ct] 73 (0, 0)) := new_at _ _ _ (by simp)
  have hr2 := (B1.block R hpi).trans h.run
  have RU : Hid (∀ W : World, Below w.heap.size w W → Calls Tryd.prog 48 #[ptV b t o, (⟨kd, rg, ad, vl, fr, ol, ct⟩ : In).val] W fun e w' => RuP (stp o ⟨kd, rg, ad, vl, fr, ol, ct⟩ (vw s t)) s t e (fun s' => (∃ cs', Ar w' b cs' ∧ Enc cs' s') ∧ Fr W w' (fun k => k = b))) := fun W hW => rule2 (pc := (pc : Int)) ⟨h.A.below hW, h.E, h.t4, h.v, h.bl, h.w6, by have := h.n10; omega, h.fit _ (List.mem_of_getElem? hi)⟩ hk
  have hxn : Hid (stp o ⟨kd, rg, ad, vl, fr, ol, ct⟩ (vw s t) = none → ins o c (vw s t) = none) := fun e => by
    unfold ins; rw [h.v.vw] at e ⊢; dsimp only; rw [Int.toNat_natCast, hi]; dsimp only; rw [e]; rfl
  have hxs : Hid (∀ y, stp o ⟨kd, rg, ad, vl, fr, ol, ct⟩ (vw s t) = some y → ins o c (vw s t) = some { y with pc := min (y.pc + 1) (n : Int) }) := fun y e => by
    unfold ins; rw [h.v.vw] at e ⊢; dsimp only; rw [Int.toNat_natCast, hi]; dsimp only; rw [e, hcl]; rfl
  have hyb : Hid (∀ y, stp o ⟨kd, rg, ad, vl, fr, ol, ct⟩ (vw s t) = some y → 0 ≤ y.pc ∧ y.pc ≤ 1000) := fun y e => stp_pc (h.fit _ (List.mem_of_getElem? hi)) (by rw [h.v.vw]; dsimp only; have := h.n10; have := h.pc1; omega) e
  have hps : t < s.pl.length := (List.getElem?_eq_some_iff.1 h.v.p).1
  have ht4 := h.t4
  have PLW : Hid (∀ (W : World) (y : Th) (cs' : Array Value), Ar W b cs' → Enc cs' (upd s t y) → W.cell? ⟨b, 22 + t, none⟩ = some (.int .i64 y.pc) ∧ W.frozen? ⟨b, 22 + t, none⟩ = false ∧ b < W.heap.size ∧ Ar (W.setCell ⟨b, 22 + t, none⟩ (.int .i64 (min (y.pc + 1) (n : Int)))) b (cs'.setIfInBounds (22 + t) (.int .i64 (min (y.pc + 1) (n : Int)))) ∧ Enc (cs'.setIfInBounds (22 + t) (.int .i64 (min (y.pc + 1) (n : Int)))) (upd s t { y with pc := min (y.pc + 1) (n : Int) })) := fun W y cs' hA' hE' => by
    have e1 : (upd s t y).pl[t]? = some y.pc := by simp [upd, List.getElem?_set, hps]
    refine ⟨(cell_blk hA'.1 _).trans (hE'.plc e1 ht4), by unfold World.frozen?; rw [hA'.1]; rfl, (Array.getElem?_eq_some_iff.1 hA'.1).1, hA'.set _ _, ?_⟩
    have h9 := hE'.set (s' := { upd s t y with pl := (upd s t y).pl.set t (min (y.pc + 1) (n : Int)) }) (i := 22 + t) (v := min (y.pc + 1) (n : Int)) (by omega) (fun j hj => enc_pl (upd s t y) j t _ (by simpa [upd] using hps) ht4)
    have e2 : ({ upd s t y with pl := (upd s t y).pl.set t (min (y.pc + 1) (n : Int)) } : Sv) = upd s t { y with pc := min (y.pc + 1) (n : Int) } := by simp [upd, List.set_set]
    rw [e2] at h9
    exact h9
  have m0 := cell_blk hp2 0
  have m1 := cell_blk hp2 1
  have m2 := cell_blk hp2 2
  have j0 := cell_blk hi2 0
  have j1 := cell_blk hi2 1
  have j2 := cell_blk hi2 2
  have j3 := cell_blk hi2 3
  have j4 := cell_blk hi2 4
  have j5 := cell_blk hi2 5
  have j6 := cell_blk hi2 6
  have r0 := cell_blk hr2 5
  have n10 := h.n10
  have l2 := (Array.getElem?_eq_some_iff.1 hp2).1
  have l3 := (Array.getElem?_eq_some_iff.1 hi2).1
  have l4 := (Array.getElem?_eq_some_iff.1 hr2).1
  simp only [rnV, fnV, List.getElem?_toArray, List.getElem?_cons_zero, List.getElem?_cons_succ] at r0
  have nR := h.nR
  subst hk
  replace B1 := Mr.hid B1
  replace B0 := Mr.hid B0
  replace hcl := Mr.hid hcl
  clear h hA1 hA2 hi hp1 hp2 hi2 hr2 cd1 hps
  unfold ptV
  generalize hq2 : 22 + t = q2 at *
  replace hq2 := Mr.hid hq2
  cases hst : stp o ⟨2, rg, ad, vl, fr, ol, ct⟩ (vw s t) with
  | none =>
    rw [hst] at RU
    have hno := Mr.hid (hxn.out hst)
    replace hst := Mr.hid hst
    clear hxs hyb PLW hxn
    go_enter Tryd.func38, Tryd.ntmps38
    go_upto_region 5 with (go_at_call 40; refine PL.out.mono ?_; clear PL; rintro e w9 ⟨rfl, hw9⟩; obtain rfl := hw9.symm)
    clear d0 d1 d2 d3 d4 d5 d6 c0 la hg
    generalize ((w.alloc (.cells #[.pointer (some ⟨b, 0, none⟩), .int .i64 (t : Int), .int .i64 o] 88)).alloc (.cells #[.int .i64 2, .int .i64 rg, .int .i64 ad, .int .i64 vl, .int .i64 fr, .int .i64 ol, .int .i64 ct] 73)) = w2 at *
    have hH1 : w.heap.size + 1 ≠ b := by omega
    go_region_held3 (fun W => W.cell? ⟨w.heap.size, 0, none⟩ = some (.pointer (some ⟨b, 0, none⟩)) ∧ W.cell? ⟨w.heap.size, 1, none⟩ = some (.int .i64 (t : Int)) ∧ W.cell? ⟨w.heap.size, 2, none⟩ = some (.int .i64 o) ∧ W.cell? ⟨w.heap.size + 1, 0, none⟩ = some (.int .i64 2) ∧ W.cell? ⟨w.heap.size + 1, 1, none⟩ = some (.int .i64 rg) ∧ W.cell? ⟨w.heap.size + 1, 2, none⟩ = some (.int .i64 ad) ∧ W.cell? ⟨w.heap.size + 1, 3, none⟩ = some (.int .i64 vl) ∧ W.cell? ⟨w.heap.size + 1, 4, none⟩ = some (.int .i64 fr) ∧ W.cell? ⟨w.heap.size + 1, 5, none⟩ = some (.int .i64 ol) ∧ W.cell? ⟨w.heap.size + 1, 6, none⟩ = some (.int .i64 ct) ∧ W.cell? ⟨R, 5, none⟩ = some (.func (.func 48) #[] #[])) (simp [*, go_sem])
      (first | (go_at_call 48; refine (RU.out _ B1.out.drew).mono ?_; clear RU; rintro e w4 D; have D' := RuP.no D; clear D; obtain ⟨rfl, D1, D2⟩ := D'; have z0 := (fr_cell (k := w.heap.size) (j := 0) D2 l2 (by omega)).trans m0; have z1 := (fr_cell (k := w.heap.size) (j := 1) D2 l2 (by omega)).trans m1; have z2 := (fr_cell (k := w.heap.size) (j := 2) D2 l2 (by omega)).trans m2; have i0 := (fr_cell (k := w.heap.size + 1) (j := 0) D2 l3 hH1).trans j0; have i1 := (fr_cell (k := w.heap.size + 1) (j := 1) D2 l3 hH1).trans j1; have i2 := (fr_cell (k := w.heap.size + 1) (j := 2) D2 l3 hH1).trans j2; have i3 := (fr_cell (k := w.heap.size + 1) (j := 3) D2 l3 hH1).trans j3; have i4 := (fr_cell (k := w.heap.size + 1) (j := 4) D2 l3 hH1).trans j4; have i5 := (fr_cell (k := w.heap.size + 1) (j := 5) D2 l3 hH1).trans j5; have i6 := (fr_cell (k := w.heap.size + 1) (j := 6) D2 l3 hH1).trans j6; have zr := (fr_cell (k := R) (j := 5) D2 l4 nR).trans r0; replace D1 := Mr.hid D1; replace D2 := Mr.hid (fr_two (Fr.of_below B1.out.drew) D2)))
    go_wp2
    go_ret
    exact .inl ⟨hno.out, rfl, D1.out, D2.out⟩
  | some y =>
    rw [hst] at RU
    have hyes := Mr.hid (hxs.out y hst)
    obtain ⟨y0, y1⟩ := hyb.out y hst
    have hwy : IntKind.i64.wrap (y.pc + 1) = y.pc + 1 := i64x _ (by omega) (by omega)
    replace hst := Mr.hid hst
    clear hxs hyb hxn
    go_enter Tryd.func38, Tryd.ntmps38
    go_upto_region 5 with (go_at_call 40; refine PL.out.mono ?_; clear PL; rintro e w9 ⟨rfl, hw9⟩; obtain rfl := hw9.symm)
    clear d0 d1 d2 d3 d4 d5 d6 c0 la hg
    generalize ((w.alloc (.cells #[.pointer (some ⟨b, 0, none⟩), .int .i64 (t : Int), .int .i64 o] 88)).alloc (.cells #[.int .i64 2, .int .i64 rg, .int .i64 ad, .int .i64 vl, .int .i64 fr, .int .i64 ol, .int .i64 ct] 73)) = w2 at *
    have hH1 : w.heap.size + 1 ≠ b := by omega
    go_region_held3 (fun W => W.cell? ⟨w.heap.size, 0, none⟩ = some (.pointer (some ⟨b, 0, none⟩)) ∧ W.cell? ⟨w.heap.size, 1, none⟩ = some (.int .i64 (t : Int)) ∧ W.cell? ⟨w.heap.size, 2, none⟩ = some (.int .i64 o) ∧ W.cell? ⟨w.heap.size + 1, 0, none⟩ = some (.int .i64 2) ∧ W.cell? ⟨w.heap.size + 1, 1, none⟩ = some (.int .i64 rg) ∧ W.cell? ⟨w.heap.size + 1, 2, none⟩ = some (.int .i64 ad) ∧ W.cell? ⟨w.heap.size + 1, 3, none⟩ = some (.int .i64 vl) ∧ W.cell? ⟨w.heap.size + 1, 4, none⟩ = some (.int .i64 fr) ∧ W.cell? ⟨w.heap.size + 1, 5, none⟩ = some (.int .i64 ol) ∧ W.cell? ⟨w.heap.size + 1, 6, none⟩ = some (.int .i64 ct) ∧ W.cell? ⟨R, 5, none⟩ = some (.func (.func 48) #[] #[])) (simp [*, go_sem])
      (first | (go_at_call 48; refine (RU.out _ B1.out.drew).mono ?_; clear RU; rintro e w4 D; have D' := RuP.yes D; clear D; obtain ⟨rfl, D1, D2⟩ := D'; have z0 := (fr_cell (k := w.heap.size) (j := 0) D2 l2 (by omega)).trans m0; have z1 := (fr_cell (k := w.heap.size) (j := 1) D2 l2 (by omega)).trans m1; have z2 := (fr_cell (k := w.heap.size) (j := 2) D2 l2 (by omega)).trans m2; have i0 := (fr_cell (k := w.heap.size + 1) (j := 0) D2 l3 hH1).trans j0; have i1 := (fr_cell (k := w.heap.size + 1) (j := 1) D2 l3 hH1).trans j1; have i2 := (fr_cell (k := w.heap.size + 1) (j := 2) D2 l3 hH1).trans j2; have i3 := (fr_cell (k := w.heap.size + 1) (j := 3) D2 l3 hH1).trans j3; have i4 := (fr_cell (k := w.heap.size + 1) (j := 4) D2 l3 hH1).trans j4; have i5 := (fr_cell (k := w.heap.size + 1) (j := 5) D2 l3 hH1).trans j5; have i6 := (fr_cell (k := w.heap.size + 1) (j := 6) D2 l3 hH1).trans j6; have zr := (fr_cell (k := R) (j := 5) D2 l4 nR).trans r0; replace D1 := Mr.hid D1; replace D2 := Mr.hid (fr_two (Fr.of_below B1.out.drew) D2)))
    obtain ⟨cs4, hA4, hE4⟩ := D1.out
    obtain ⟨x1, x2, x3, x4, x5⟩ := PLW.out w4 y cs4 hA4 hE4
    replace x4 := Mr.hid x4
    replace x5 := Mr.hid x5
    clear D1 hA4 hE4 PLW y0 y1
    clear z0 z1 z2 i0 i1 i2 i3 i4 i5 i6 zr m0 m1 m2 j0 j1 j2 j3 j4 j5 j6 r0 hH1
    generalize hyp : y.pc = yp at *
    replace hyp := Mr.hid hyp
    have hle : ((yp + 1 ≤ (n : Int)) ∨ ¬ (yp + 1 ≤ (n : Int))) := Decidable.em _
    rcases hle with hle | hle
    · have hmn : min (yp + 1) (n : Int) = yp + 1 := by omega
      have hlt : ¬ (n : Int) < yp + 1 := by omega
      rw [hmn] at hyes x4 x5
      go_wp2
      go_ret
      exact .inr ⟨_, hyes.out, rfl, ⟨_, x4.out, x5.out⟩, D2.out.setCell _ _ (.inl rfl)⟩
    · have hmn : min (yp + 1) (n : Int) = (n : Int) := by omega
      have hlt : (n : Int) < yp + 1 := by omega
      rw [hmn] at hyes x4 x5
      go_wp2
      go_ret
      exact .inr ⟨_, hyes.out, rfl, ⟨_, x4.out, x5.out⟩, D2.out.setCell _ _ (.inl rfl)⟩
end Go.Proofs.YtmejblmeaipahaaDoor.Ts
