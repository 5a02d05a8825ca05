import Derived.Test.YtmejblmeaipahaaDoorJ15
import Derived.Test.YtmejblmeaipahaaDoorJ16
/-
  TSO: the program's instruction.
-/
namespace Go.Proofs.YtmejblmeaipahaaDoor.Ts
open Go.RowKit Mr
set_option linter.unusedVariables false
set_option linter.unusedSimpArgs false
set_option maxRecDepth 100000
set_option maxHeartbeats 16000000 in
theorem inst_7 (s : Sv) (R b t : Nat) (o kd rg ad vl fr ol ct : Int) (sw st : Value) (r : Rg) (pc : Nat) (bf : List Pd) (cs : Array Value) (a : Option Addr) (n k : Nat) (c : List In) (w : World) (h : Ipre s R b t o sw st r pc bf cs a n k c w) (hi : c[pc]? = some ⟨kd, rg, ad, vl, fr, ol, ct⟩) (hk : kd = 7) :
    Calls Tryd.prog 38 #[.pointer (some ⟨R, 0, none⟩), ptV b t o, .slice a n k] w fun e w' => RuP (ins o c (vw s t)) s t e (fun s' => (∃ cs', Ar w' b cs' ∧ Enc cs' s') ∧ Fr w w' (fun k => k = b)) := by
  have B0 : Below w.heap.size w (w.alloc (.cells #[.pointer (some ⟨b, 0, none⟩), .int .i64 (t : Int), .int .i64 o] 88)) := (Below.refl _ _).alloc (Nat.le_refl _) _
  have hp1 : (w.alloc (.cells #[.pointer (some ⟨b, 0, none⟩), .int .i64 (t : Int), .int .i64 o] 88)).heap[w.heap.size]? = some (.cells #[.pointer (some ⟨b, 0, none⟩), .int .i64 (t : Int), .int .i64 o] 88 (0, 0)) := new_at _ _ _ rfl
  have B1 : Below w.heap.size w ((w.alloc (.cells #[.pointer (some ⟨b, 0, none⟩), .int .i64 (t : Int), .int .i64 o] 88)).alloc (.cells #[.int .i64 kd, .int .i64 rg, .int .i64 ad, .int .i64 vl, .int .i64 fr, .int .i64 ol, .int .i64 ct] 73)) := B0.alloc (by simp) _
  have hA1 := h.A.below B0
  have hA2 := h.A.below B1
  have PL := Mr.hid (place_any b t cs _ hA1 h.t4)
  have c0 := (cell_blk hA1.1 (22 + t)).trans (h.E.plc h.v.p h.t4)
  have la := (Array.getElem?_eq_some_iff.1 hA1.1).1
  have lb := (Array.getElem?_eq_some_iff.1 h.A.1).1
  have hpl : pc < n := by have := (List.getElem?_eq_some_iff.1 hi).1; have := h.cd.1; omega
  have dq : ((pc : Int) == (n : Int)) = false := beq_eq_false_iff_ne.2 (by omega)
  have lpI : (pc : Int) < (n : Int) := by omega
  have cd1 := h.cd.below B0
  obtain ⟨g, q, rfl, hg, d0, d1, d2, d3, d4, d5, d6⟩ := cd1.at hi
  dsimp only at d0 d1 d2 d3 d4 d5 d6
  have hcl := h.cd.1
  have hpi := (Array.getElem?_eq_some_iff.1 h.run).1
  have hp2 : ((w.alloc (.cells #[.pointer (some ⟨b, 0, none⟩), .int .i64 (t : Int), .int .i64 o] 88)).alloc (.cells #[.int .i64 kd, .int .i64 rg, .int .i64 ad, .int .i64 vl, .int .i64 fr, .int .i64 ol, .int .i64 ct] 73)).heap[w.heap.size]? = some (.cells #[.pointer (some ⟨b, 0, none⟩), .int .i64 (t : Int), .int .i64 o] 88 (0, 0)) := (Lib.alloc_old _ _ _ (by simp)).trans hp1
  have hi2 : ((w.alloc (.cells #[.pointer (some ⟨b, 0, none⟩), .int .i64 (t : Int), .int .i64 o] 88)).alloc (.cells #[.int .i64 kd, .int .i64 rg, .int .i64 ad, .int .i64 vl, .int .i64 fr, .int .i64 ol, .int .i64 ct] 73)).heap[w.heap.size + 1]? = some (.cells #[.int .i64 kd, .int .i64 rg, .int .i64 ad, .int .i64 vl, .int .i64 fr, .int .i64 ol, .int .i64 ct] 73 (0, 0)) := new_at _ _ _ (by simp)
  have hr2 := (B1.block R hpi).trans h.run
  have RU : Hid (∀ W : World, Below w.heap.size w W → Calls Tryd.prog 53 #[ptV b t o, (⟨kd, rg, ad, vl, fr, ol, ct⟩ : In).val] W fun e w' => RuP (stp o ⟨kd, rg, ad, vl, fr, ol, ct⟩ (vw s t)) s t e (fun s' => (∃ cs', Ar w' b cs' ∧ Enc cs' s') ∧ Fr W w' (fun k => k = b))) := fun W hW => rule7 (pc := (pc : Int)) ⟨h.A.below hW, h.E, h.t4, h.v, h.bl, h.w6, by have := h.n10; omega, h.fit _ (List.mem_of_getElem? hi)⟩ hk
  have hxn : Hid (stp o ⟨kd, rg, ad, vl, fr, ol, ct⟩ (vw s t) = none → ins o c (vw s t) = none) := fun e => by
    unfold ins; rw [h.v.vw] at e ⊢; dsimp only; rw [Int.toNat_natCast, hi]; dsimp only; rw [e]; rfl
  have hxs : Hid (∀ y, stp o ⟨kd, rg, ad, vl, fr, ol, ct⟩ (vw s t) = some y → ins o c (vw s t) = some { y with pc := min (y.pc + 1) (n : Int) }) := fun y e => by
    unfold ins; rw [h.v.vw] at e ⊢; dsimp only; rw [Int.toNat_natCast, hi]; dsimp only; rw [e, hcl]; rfl
  have hyb : Hid (∀ y, stp o ⟨kd, rg, ad, vl, fr, ol, ct⟩ (vw s t) = some y → 0 ≤ y.pc ∧ y.pc ≤ 1000) := fun y e => stp_pc (h.fit _ (List.mem_of_getElem? hi)) (by rw [h.v.vw]; dsimp only; have := h.n10; have := h.pc1; omega) e
  have hps : t < s.pl.length := (List.getElem?_eq_some_iff.1 h.v.p).1
  have ht4 := h.t4
  have PLW : Hid (∀ (W : World) (y : Th) (cs' : Array Value), Ar W b cs' → Enc cs' (upd s t y) → W.cell? ⟨b, 22 + t, none⟩ = some (.int .i64 y.pc) ∧ W.frozen? ⟨b, 22 + t, none⟩ = false ∧ b < W.heap.size ∧ Ar (W.setCell ⟨b, 22 + t, none⟩ (.int .i64 (min (y.pc + 1) (n : Int)))) b (cs'.setIfInBounds (22 + t) (.int .i64 (min (y.pc + 1) (n : Int)))) ∧ Enc (cs'.setIfInBounds (22 + t) (.int .i64 (min (y.pc + 1) (n : Int)))) (upd s t { y with pc := min (y.pc + 1) (n : Int) })) := fun W y cs' hA' hE' => by
    have e1 : (upd s t y).pl[t]? = some y.pc := by simp [upd, List.getElem?_set, hps]
    refine ⟨(cell_blk hA'.1 _).trans (hE'.plc e1 ht4), by unfold World.frozen?; rw [hA'.1]; rfl, (Array.getElem?_eq_some_iff.1 hA'.1).1, hA'.set _ _, ?_⟩
    have h9 := hE'.set (s' := { upd s t y with pl := (upd s t y).pl.set t (min (y.pc + 1) (n : Int)) }) (i := 22 + t) (v := min (y.pc + 1) (n : Int)) (by omega) (fun j hj => enc_pl (upd s t y) j t _ (by simpa [upd] using hps) ht4)
    have e2 : ({ upd s t y with pl := (upd s t y).pl.set t (min (y.pc + 1) (n : Int)) } : Sv) = upd s t { y with pc := min (y.pc + 1) (n : Int) } := by simp [upd, List.set_set]
    rw [e2] at h9
    exact h9
  have m0 := cell_blk hp2 0
  have m1 := cell_blk hp2 1
  have m2 := cell_blk hp2 2
  have j0 := cell_blk hi2 0
  have j1 := cell_blk hi2 1
  have j2 := cell_blk hi2 2
  have j3 := cell_blk hi2 3
  have j4 := cell_blk hi2 4
  have j5 := cell_blk hi2 5
  have j6 := cell_blk hi2 6
  have r0 := cell_blk hr2 10
  have n10 := h.n10
  have l2 := (Array.getElem?_eq_some_iff.1 hp2).1
  have l3 := (Array.getElem?_eq_some_iff.1 hi2).1
  have l4 := (Array.getElem?_eq_some_iff.1 hr2).1
  simp only [rnV, fnV, List.getElem?_toArray, List.getElem?_cons_zero, List.getElem?_cons_succ] at r0
  have nR := h.nR
  subst hk
  replace B1 := Mr.hid B1
  replace B0 := Mr.hid B0
  replace hcl := Mr.hid hcl
  clear h hA1 hA2 hi hp1 hp2 hi2 hr2 cd1 hps
  unfold ptV
  generalize hq2 : 22 + t = q2 at *
  replace hq2 := Mr.hid hq2
  cases hst : stp o ⟨7, rg, ad, vl, fr, ol, ct⟩ (vw s t) with
  | none =>
    rw [hst] at RU
    have hno := Mr.hid (hxn.out hst)
    replace hst := Mr.hid hst
    clear hxs hyb PLW hxn
    go_enter Tryd.func38, Tryd.ntmps38
    go_upto_region 5 with (go_at_call 40; refine PL.out.mono ?_; clear PL; rintro e w9 ⟨rfl, hw9⟩; obtain rfl := hw9.symm)
    clear d0 d1 d2 d3 d4 d5 d6 c0 la hg
    generalize ((w.alloc (.cells #[.pointer (some ⟨b, 0, none⟩), .int .i64 (t : Int), .int .i64 o] 88)).alloc (.cells #[.int .i64 7, .int .i64 rg, .int .i64 ad, .int .i64 vl, .int .i64 fr, .int .i64 ol, .int .i64 ct] 73)) = w2 at *
    have hH1 : w.heap.size + 1 ≠ b := by omega
    go_region_held3 (fun W => W.cell? ⟨w.heap.size, 0, none⟩ = some (.pointer (some ⟨b, 0, none⟩)) ∧ W.cell? ⟨w.heap.size, 1, none⟩ = some (.int .i64 (t : Int)) ∧ W.cell? ⟨w.heap.size, 2, none⟩ = some (.int .i64 o) ∧ W.cell? ⟨w.heap.size + 1, 0, none⟩ = some (.int .i64 7) ∧ W.cell? ⟨w.heap.size + 1, 1, none⟩ = some (.int .i64 rg) ∧ W.cell? ⟨w.heap.size + 1, 2, none⟩ = some (.int .i64 ad) ∧ W.cell? ⟨w.heap.size + 1, 3, none⟩ = some (.int .i64 vl) ∧ W.cell? ⟨w.heap.size + 1, 4, none⟩ = some (.int .i64 fr) ∧ W.cell? ⟨w.heap.size + 1, 5, none⟩ = some (.int .i64 ol) ∧ W.cell? ⟨w.heap.size + 1, 6, none⟩ = some (.int .i64 ct) ∧ W.cell? ⟨R, 10, none⟩ = some (.func (.func 53) #[] #[])) (simp [*, go_sem])
      (first | (go_at_call 53; refine (RU.out _ B1.out.drew).mono ?_; clear RU; rintro e w4 D; have D' := RuP.no D; clear D; obtain ⟨rfl, D1, D2⟩ := D'; have z0 := (fr_cell (k := w.heap.size) (j := 0) D2 l2 (by omega)).trans m0; have z1 := (fr_cell (k := w.heap.size) (j := 1) D2 l2 (by omega)).trans m1; have z2 := (fr_cell (k := w.heap.size) (j := 2) D2 l2 (by omega)).trans m2; have i0 := (fr_cell (k := w.heap.size + 1) (j := 0) D2 l3 hH1).trans j0; have i1 := (fr_cell (k := w.heap.size + 1) (j := 1) D2 l3 hH1).trans j1; have i2 := (fr_cell (k := w.heap.size + 1) (j := 2) D2 l3 hH1).trans j2; have i3 := (fr_cell (k := w.heap.size + 1) (j := 3) D2 l3 hH1).trans j3; have i4 := (fr_cell (k := w.heap.size + 1) (j := 4) D2 l3 hH1).trans j4; have i5 := (fr_cell (k := w.heap.size + 1) (j := 5) D2 l3 hH1).trans j5; have i6 := (fr_cell (k := w.heap.size + 1) (j := 6) D2 l3 hH1).trans j6; have zr := (fr_cell (k := R) (j := 10) D2 l4 nR).trans r0; replace D1 := Mr.hid D1; replace D2 := Mr.hid (fr_two (Fr.of_below B1.out.drew) D2)))
    go_wp2
    go_ret
    exact .inl ⟨hno.out, rfl, D1.out, D2.out⟩
  | some y =>
    rw [hst] at RU
    have hyes := Mr.hid (hxs.out y hst)
    obtain ⟨y0, y1⟩ := hyb.out y hst
    have hwy : IntKind.i64.wrap (y.pc + 1) = y.pc + 1 := i64x _ (by omega) (by omega)
    replace hst := Mr.hid hst
    clear hxs hyb hxn
    go_enter Tryd.func38, Tryd.ntmps38
    go_upto_region 5 with (go_at_call 40; refine PL.out.mono ?_; clear PL; rintro e w9 ⟨rfl, hw9⟩; obtain rfl := hw9.symm)
    clear d0 d1 d2 d3 d4 d5 d6 c0 la hg
    generalize ((w.alloc (.cells #[.pointer (some ⟨b, 0, none⟩), .int .i64 (t : Int), .int .i64 o] 88)).alloc (.cells #[.int .i64 7, .int .i64 rg, .int .i64 ad, .int .i64 vl, .int .i64 fr, .int .i64 ol, .int .i64 ct] 73)) = w2 at *
    have hH1 : w.heap.size + 1 ≠ b := by omega
    go_region_held3 (fun W => W.cell? ⟨w.heap.size, 0, none⟩ = some (.pointer (some ⟨b, 0, none⟩)) ∧ W.cell? ⟨w.heap.size, 1, none⟩ = some (.int .i64 (t : Int)) ∧ W.cell? ⟨w.heap.size, 2, none⟩ = some (.int .i64 o) ∧ W.cell? ⟨w.heap.size + 1, 0, none⟩ = some (.int .i64 7) ∧ W.cell? ⟨w.heap.size + 1, 1, none⟩ = some (.int .i64 rg) ∧ W.cell? ⟨w.heap.size + 1, 2, none⟩ = some (.int .i64 ad) ∧ W.cell? ⟨w.heap.size + 1, 3, none⟩ = some (.int .i64 vl) ∧ W.cell? ⟨w.heap.size + 1, 4, none⟩ = some (.int .i64 fr) ∧ W.cell? ⟨w.heap.size + 1, 5, none⟩ = some (.int .i64 ol) ∧ W.cell? ⟨w.heap.size + 1, 6, none⟩ = some (.int .i64 ct) ∧ W.cell? ⟨R, 10, none⟩ = some (.func (.func 53) #[] #[])) (simp [*, go_sem])
      (first | (go_at_call 53; refine (RU.out _ B1.out.drew).mono ?_; clear RU; rintro e w4 D; have D' := RuP.yes D; clear D; obtain ⟨rfl, D1, D2⟩ := D'; have z0 := (fr_cell (k := w.heap.size) (j := 0) D2 l2 (by omega)).trans m0; have z1 := (fr_cell (k := w.heap.size) (j := 1) D2 l2 (by omega)).trans m1; have z2 := (fr_cell (k := w.heap.size) (j := 2) D2 l2 (by omega)).trans m2; have i0 := (fr_cell (k := w.heap.size + 1) (j := 0) D2 l3 hH1).trans j0; have i1 := (fr_cell (k := w.heap.size + 1) (j := 1) D2 l3 hH1).trans j1; have i2 := (fr_cell (k := w.heap.size + 1) (j := 2) D2 l3 hH1).trans j2; have i3 := (fr_cell (k := w.heap.size + 1) (j := 3) D2 l3 hH1).trans j3; have i4 := (fr_cell (k := w.heap.size + 1) (j := 4) D2 l3 hH1).trans j4; have i5 := (fr_cell (k := w.heap.size + 1) (j := 5) D2 l3 hH1).trans j5; have i6 := (fr_cell (k := w.heap.size + 1) (j := 6) D2 l3 hH1).trans j6; have zr := (fr_cell (k := R) (j := 10) D2 l4 nR).trans r0; replace D1 := Mr.hid D1; replace D2 := Mr.hid (fr_two (Fr.of_below B1.out.drew) D2)))
    obtain ⟨cs4, hA4, hE4⟩ := D1.out
    obtain ⟨x1, x2, x3, x4, x5⟩ := PLW.out w4 y cs4 hA4 hE4
    replace x4 := Mr.hid x4
    replace x5 := Mr.hid x5
    clear D1 hA4 hE4 PLW y0 y1
    clear z0 z1 z2 i0 i1 i2 i3 i4 i5 i6 zr m0 m1 m2 j0 j1 j2 j3 j4 j5 j6 r0 hH1
    generalize hyp : y.pc = yp at *
    replace hyp := Mr.hid hyp
    have hle : ((yp + 1 ≤ (n : Int)) ∨ ¬ (yp + 1 ≤ (n : Int))) := Decidable.em _
    rcases hle with hle | hle
    · have hmn : min (yp + 1) (n : Int) = yp + 1 := by omega
      have hlt : ¬ (n : Int) < yp + 1 := by omega
      rw [hmn] at hyes x4 x5
      go_wp2
      go_ret
      exact .inr ⟨_, hyes.out, rfl, ⟨_, x4.out, x5.out⟩, D2.out.setCell _ _ (.inl rfl)⟩
    · have hmn : min (yp + 1) (n : Int) = (n : Int) := by omega
      have hlt : (n : Int) < yp + 1 := by omega
      rw [hmn] at hyes x4 x5
      go_wp2
      go_ret
      exact .inr ⟨_, hyes.out, rfl, ⟨_, x4.out, x5.out⟩, D2.out.setCell _ _ (.inl rfl)⟩
end Go.Proofs.YtmejblmeaipahaaDoor.Ts
/-
  TSO: the program's turn.
-/
namespace Go.Proofs.YtmejblmeaipahaaDoor.Ts
open Go.RowKit Mr
set_option linter.unusedVariables false
set_option linter.unusedSimpArgs false
set_option maxRecDepth 100000
theorem inst_any (s : Sv) (R b t : Nat) (o : Int) (sw st : Value) (r : Rg) (pc : Nat) (bf : List Pd) (cs : Array Value) (a : Option Addr) (n k : Nat) (c : List In) (w : World) (h : Ipre s R b t o sw st r pc bf cs a n k c w) :
    Calls Tryd.prog 38 #[.pointer (some ⟨R, 0, none⟩), ptV b t o, .slice a n k] w fun e w' => RuP (ins o c (vw s t)) s t e (fun s' => (∃ cs', Ar w' b cs' ∧ Enc cs' s') ∧ Fr w w' (fun k => k = b)) := by
  by_cases he : pc = n
  · exact inst_end s R b t o sw st r pc bf cs a n k c w h he
  · have hl : pc < c.length := by have := h.cd.1; have := h.pc1; omega
    have hi : c[pc]? = some c[pc] := List.getElem?_eq_getElem hl
    have hf := h.fit _ (List.mem_of_getElem? hi)
    have hk : 1 ≤ (c[pc]).kd ∧ (c[pc]).kd ≤ 7 := by
      simp only [fitB, inB, Bool.and_eq_true, decide_eq_true_eq] at hf
      omega
    generalize c[pc] = i at hi hk
    obtain ⟨kd, rg, ad, vl, fr, ol, ct⟩ := i
    dsimp only at hk
    by_cases k1 : kd = 1
    · exact inst_1 s R b t o kd rg ad vl fr ol ct sw st r pc bf cs a n k c w h hi k1
    by_cases k2 : kd = 2
    · exact inst_2 s R b t o kd rg ad vl fr ol ct sw st r pc bf cs a n k c w h hi k2
    by_cases k3 : kd = 3
    · exact inst_3 s R b t o kd rg ad vl fr ol ct sw st r pc bf cs a n k c w h hi k3
    by_cases k4 : kd = 4
    · exact inst_4 s R b t o kd rg ad vl fr ol ct sw st r pc bf cs a n k c w h hi k4
    by_cases k5 : kd = 5
    · exact inst_5 s R b t o kd rg ad vl fr ol ct sw st r pc bf cs a n k c w h hi k5
    by_cases k6 : kd = 6
    · exact inst_6 s R b t o kd rg ad vl fr ol ct sw st r pc bf cs a n k c w h hi k6
    · exact inst_7 s R b t o kd rg ad vl fr ol ct sw st r pc bf cs a n k c w h hi (by omega)
/-- What a turn leans on: a program that may be, a state of its shape whose threads may be. -/
structure Tpre (l : Lt) (s : Sv) (R b : Nat) (o : Int) (sw : Value) (at' : Option Addr) (nt ct : Nat) (cs : Array Value) (w : World) : Prop where
  A : Ar w b cs
  E : Enc cs s
  chk : chkB l = true
  shp : Shp l s
  tps : ∀ k c, l.th[k]? = some c → Tp o c.length l.ws.length (vw s k)
  run : w.heap[R]? = some (.cells (rnV sw (.slice at' nt ct) o) 84 (0, 0))
  th : ThAt w at' nt l.th
  nR : R ≠ b
theorem chk_len {l : Lt} (h : chkB l = true) : (1 ≤ l.th.length ∧ l.th.length ≤ 4) ∧ (1 ≤ l.ws.length ∧ l.ws.length ≤ 6) ∧ ∀ c ∈ l.th, c.length ≤ 10 ∧ ∀ i ∈ c, fitB (l.ws.length : Int) i = true := by
  simp only [chkB, inB, codeB, Bool.and_eq_true, decide_eq_true_eq, List.all_eq_true] at h
  exact ⟨by omega, by omega, fun c hc => h.2 c hc⟩
def tnV (t : Tn) : Value := .agg #[.int .i64 t.th, .bool t.ou, .int .i64 t.ad]
theorem RuP.ret {x : Option Th} {s : Sv} {t : Nat} {e : Ending} {P : Sv → Prop} (h : RuP x s t e P) : ∃ bb, e = .returned (.bool bb) := by
  rcases h with ⟨_, h, _⟩ | ⟨y, _, h, _⟩ <;> exact ⟨_, h⟩
theorem OutP.ru {o : Int} {s : Sv} {t : Nat} {r : Rg} {pc : Int} {bf : List Pd} {ad : Int} {e : Ending} {P : Sv → Prop} (hv : Vw s t r pc bf) (h : OutP o s t bf ad e P) : RuP (out1 o (vw s t) ad) s t e P := by
  rw [hv.vw]
  unfold out1
  dsimp only
  rcases h with ⟨h0, h1, h2⟩ | ⟨n, p, h0, hp, h1, h2⟩
  · rw [h0]; exact .inl ⟨rfl, h1, h2⟩
  · rw [h0]; dsimp only; rw [hp]; dsimp only
    refine .inr ⟨_, rfl, h1, ?_⟩
    rw [hv.upd_wb]
    exact h2
set_option maxHeartbeats 8000000 in
theorem turn_no (l : Lt) (s : Sv) (R b : Nat) (o : Int) (sw : Value) (at' : Option Addr) (nt ct : Nat) (cs : Array Value) (w : World) (h : Tpre l s R b o sw at' nt ct cs w) (tn : Tn) (hno : inB tn.th 0 ((nt : Int) - 1) = false) :
    Calls Tryd.prog 24 #[.pointer (some ⟨R, 0, none⟩), .pointer (some ⟨b, 0, none⟩), tnV tn] w fun e w' => RuP (act l o s tn) s tn.th.toNat e (fun s' => (∃ cs', Ar w' b cs' ∧ Enc cs' s') ∧ Fr w w' (fun k => k = b)) := by
  obtain ⟨th, ou, ad⟩ := tn
  dsimp only at hno ⊢
  have B0 : Below w.heap.size w (w.alloc (.cells #[.int .i64 th, .bool ou, .int .i64 ad] 44)) := (Below.refl _ _).alloc (Nat.le_refl _) _
  have hx : act l o s ⟨th, ou, ad⟩ = none := by
    have := h.th.1
    unfold act; dsimp only; rw [if_neg (by simp [inB] at hno; omega)]
  have hn : nt ≤ 4 := by have := h.th.1; have := (chk_len h.chk).1; omega
  have hbx : (w.alloc (.cells #[.int .i64 th, .bool ou, .int .i64 ad] 44)).heap[w.heap.size]? = some (.cells #[.int .i64 th, .bool ou, .int .i64 ad] 44 (0, 0)) := new_at _ _ _ rfl
  have c0 := cell_blk hbx 0
  have lR := (Array.getElem?_eq_some_iff.1 h.run).1
  have r1 := cell_blk ((B0.block R lR).trans h.run) 1
  simp only [rnV, List.getElem?_toArray, List.getElem?_cons_zero, List.getElem?_cons_succ] at r1
  have lx := (Array.getElem?_eq_some_iff.1 hbx).1
  have lR1 := Nat.lt_of_lt_of_le lR B0.size
  have WI := Mr.hid (fun W => within_any th 0 ((nt : Int) - 1) W)
  rw [hno] at WI
  have hw1 : IntKind.i64.wrap ((nt : Int) - 1) = (nt : Int) - 1 := i64x _ (by omega) (by omega)
  have hfin : Hid (∀ W, Below w.heap.size w W → RuP (act l o s ⟨th, ou, ad⟩) s th.toNat (.returned (.bool false)) (fun s' => (∃ cs', Ar W b cs' ∧ Enc cs' s') ∧ Fr w W (fun k => k = b))) := fun W hW => .inl ⟨hx, rfl, ⟨cs, h.A.below hW, h.E⟩, Fr.of_below hW⟩
  replace B0 := Mr.hid B0
  clear h hx hbx
  unfold tnV
  go_enter Tryd.func24, Tryd.ntmps24
  go_upto_region 1 with fail
  generalize w.alloc (.cells #[.int .i64 th, .bool ou, .int .i64 ad] 44) = w1 at *
  go_region_held3 (fun W => W.cell? ⟨w.heap.size, 0, none⟩ = some (.int .i64 th) ∧ W.cell? ⟨R, 1, none⟩ = some (.slice at' nt ct)) (simp [*, go_sem])
    (first | (go_at_call 36; refine (WI.out _).mono ?_; rintro e w9 ⟨rfl, hw9⟩; obtain rfl := hw9.symm))
  have BW := Mr.hid (B0.out.drew)
  go_wp2
  go_ret
  exact hfin.out _ BW.out
set_option maxHeartbeats 16000000 in
theorem turn_out (l : Lt) (s : Sv) (R b : Nat) (o : Int) (sw : Value) (at' : Option Addr) (nt ct : Nat) (cs : Array Value) (w : World) (h : Tpre l s R b o sw at' nt ct cs w) (tk : Nat) (ad : Int) (hk : tk < nt) :
    Calls Tryd.prog 24 #[.pointer (some ⟨R, 0, none⟩), .pointer (some ⟨b, 0, none⟩), tnV ⟨(tk : Int), true, ad⟩] w fun e w' => RuP (act l o s ⟨(tk : Int), true, ad⟩) s tk e (fun s' => (∃ cs', Ar w' b cs' ∧ Enc cs' s') ∧ Fr w w' (fun k => k = b)) := by
  have B0 : Below w.heap.size w (w.alloc (.cells #[.int .i64 (tk : Int), .bool true, .int .i64 ad] 44)) := (Below.refl _ _).alloc (Nat.le_refl _) _
  have hkl : tk < l.th.length := by rw [← h.th.1]; exact hk
  have hx : act l o s ⟨(tk : Int), true, ad⟩ = out1 o (vw s tk) ad := by
    unfold act; dsimp only; rw [if_pos (by omega)]; simp
  obtain ⟨hc1, hc2, hc3⟩ := chk_len h.chk
  have hn : nt ≤ 4 := by have := h.th.1; omega
  have hV := Vw.of h.shp hkl
  obtain ⟨cd, hcd⟩ : ∃ c, l.th[tk]? = some c := ⟨_, List.getElem?_eq_getElem hkl⟩
  have hT := h.tps tk cd hcd
  have OU : Hid (∀ W : World, Below w.heap.size w W → Calls Tryd.prog 37 #[ptV b tk o, .int .i64 ad] W fun e w' => RuP (act l o s ⟨(tk : Int), true, ad⟩) s tk e (fun s' => (∃ cs', Ar w' b cs' ∧ Enc cs' s') ∧ Fr w w' (fun k => k = b))) := fun W hW => by
    refine (out_any s b tk o ad (vw s tk).b cs W (h.A.below hW) h.E (by omega) hV.b hT.b1 (by rw [h.shp.w]; omega) (fun q hq => by have := hT.ba q hq; rw [h.shp.w]; exact this) hT.sc).mono ?_
    intro e w' D
    rw [hx]
    have D2 := OutP.ru hV D
    rcases D2 with ⟨a1, a2, a3, a4⟩ | ⟨y, a1, a2, a3, a4⟩
    · exact .inl ⟨a1, a2, a3, fr_two (Fr.of_below hW) a4⟩
    · exact .inr ⟨y, a1, a2, a3, fr_two (Fr.of_below hW) a4⟩
  have hbx : (w.alloc (.cells #[.int .i64 (tk : Int), .bool true, .int .i64 ad] 44)).heap[w.heap.size]? = some (.cells #[.int .i64 (tk : Int), .bool true, .int .i64 ad] 44 (0, 0)) := new_at _ _ _ rfl
  have c0 := cell_blk hbx 0
  have c1 := cell_blk hbx 1
  have c2 := cell_blk hbx 2
  have lR := (Array.getElem?_eq_some_iff.1 h.run).1
  have r1 := cell_blk ((B0.block R lR).trans h.run) 1
  have r2 := cell_blk ((B0.block R lR).trans h.run) 2
  simp only [rnV, List.getElem?_toArray, List.getElem?_cons_zero, List.getElem?_cons_succ] at r1 r2
  have lx := (Array.getElem?_eq_some_iff.1 hbx).1
  have lR1 := Nat.lt_of_lt_of_le lR B0.size
  have WI := Mr.hid (fun W => within_any (tk : Int) 0 ((nt : Int) - 1) W)
  rw [show inB (tk : Int) 0 ((nt : Int) - 1) = true by simp [inB]; omega] at WI
  have hw1 : IntKind.i64.wrap ((nt : Int) - 1) = (nt : Int) - 1 := i64x _ (by omega) (by omega)
  replace B0 := Mr.hid B0
  clear h hx hbx hV hcd hT hc1 hc2 hc3
  unfold tnV
  go_enter Tryd.func24, Tryd.ntmps24
  go_upto_region 1 with fail
  generalize w.alloc (.cells #[.int .i64 (tk : Int), .bool true, .int .i64 ad] 44) = w1 at *
  go_region_held3 (fun W => W.cell? ⟨w.heap.size, 0, none⟩ = some (.int .i64 (tk : Int)) ∧ W.cell? ⟨R, 1, none⟩ = some (.slice at' nt ct)) (simp [*, go_sem])
    (first | (go_at_call 36; refine (WI.out _).mono ?_; rintro e w9 ⟨rfl, hw9⟩; obtain rfl := hw9.symm))
  go_upto_region 3 with fail
  go_region_held3 (fun W => W.cell? ⟨w.heap.size, 0, none⟩ = some (.int .i64 (tk : Int)) ∧ W.cell? ⟨R, 2, none⟩ = some (.int .i64 o)) (simp [*, go_sem]) (fail)
  have B3 : Below w1.heap.size w1 ((w1.alloc (.cells #[.pointer (some ⟨b, 0, none⟩), .int .i64 (tk : Int), .int .i64 o] 88)).drew.drew) := (((Below.refl _ _).alloc (Nat.le_refl _) _).drew).drew
  have hp : ((w1.alloc (.cells #[.pointer (some ⟨b, 0, none⟩), .int .i64 (tk : Int), .int .i64 o] 88)).drew.drew).heap[w1.heap.size]? = some (.cells #[.pointer (some ⟨b, 0, none⟩), .int .i64 (tk : Int), .int .i64 o] 88 (0, 0)) := new_at _ _ _ rfl
  have p0 := cell_blk hp 0
  have p1 := cell_blk hp 1
  have p2 := cell_blk hp 2
  have lp := (Array.getElem?_eq_some_iff.1 hp).1
  have k0 := (B3.cell (p := ⟨w.heap.size, 0, none⟩) lx).trans c0
  have k1 := (B3.cell (p := ⟨w.heap.size, 1, none⟩) lx).trans c1
  have k2 := (B3.cell (p := ⟨w.heap.size, 2, none⟩) lx).trans c2
  have z1 := (B3.cell (p := ⟨R, 1, none⟩) lR1).trans r1
  have lx3 := Nat.lt_of_lt_of_le lx B3.size
  have BW : Hid (Below w.heap.size w ((w1.alloc (.cells #[.pointer (some ⟨b, 0, none⟩), .int .i64 (tk : Int), .int .i64 o] 88)).drew.drew)) := B0.out.trans (B3.mono B0.out.size)
  clear c0 c1 c2 r1 r2 hp
  clear B3
  generalize ((w1.alloc (.cells #[.pointer (some ⟨b, 0, none⟩), .int .i64 (tk : Int), .int .i64 o] 88)).drew.drew) = w3 at *
  generalize w1.heap.size = H1 at *
  go_wp2_with (go_at_call 37; refine (OU.out _ BW.out).mono ?_; clear OU; rintro e w4 D; replace D := Mr.hid D; obtain ⟨bb, hbb⟩ : ∃ bb, e = .returned (.bool bb) := RuP.ret D.out; subst hbb)
  go_ret
  exact D.out
set_option maxHeartbeats 16000000 in
theorem turn_in (l : Lt) (s : Sv) (R b : Nat) (o : Int) (sw : Value) (at' : Option Addr) (nt ct : Nat) (cs : Array Value) (w : World) (h : Tpre l s R b o sw at' nt ct cs w) (tk : Nat) (ad : Int) (hk : tk < nt) :
    Calls Tryd.prog 24 #[.pointer (some ⟨R, 0, none⟩), .pointer (some ⟨b, 0, none⟩), tnV ⟨(tk : Int), false, ad⟩] w fun e w' => RuP (act l o s ⟨(tk : Int), false, ad⟩) s tk e (fun s' => (∃ cs', Ar w' b cs' ∧ Enc cs' s') ∧ Fr w w' (fun k => k = b)) := by
  have B0 : Below w.heap.size w (w.alloc (.cells #[.int .i64 (tk : Int), .bool false, .int .i64 ad] 44)) := (Below.refl _ _).alloc (Nat.le_refl _) _
  have hkl : tk < l.th.length := by rw [← h.th.1]; exact hk
  obtain ⟨cd, hcd⟩ : ∃ c, l.th[tk]? = some c := ⟨_, List.getElem?_eq_getElem hkl⟩
  have hx : act l o s ⟨(tk : Int), false, ad⟩ = ins o cd (vw s tk) := by
    unfold act; dsimp only; rw [if_pos (by omega)]; simp [List.getD_eq_getElem?_getD, hcd]
  obtain ⟨hc1, hc2, hc3⟩ := chk_len h.chk
  have hn : nt ≤ 4 := by have := h.th.1; omega
  have hV := Vw.of h.shp hkl
  have hT := h.tps tk cd hcd
  obtain ⟨hcl, hcf⟩ := hc3 cd (List.mem_of_getElem? hcd)
  obtain ⟨g, q, rfl, hg, hgc⟩ := h.th.2.resolve_left (by intro e; rw [e] at hkl; simp at hkl)
  obtain ⟨a', n', k', hcell, hnk, hC⟩ := hgc tk cd hcd
  obtain ⟨pc, hpc⟩ := Int.eq_ofNat_of_zero_le hT.p0
  have IN : Hid (∀ W : World, Below w.heap.size w W → Calls Tryd.prog 38 #[.pointer (some ⟨R, 0, none⟩), ptV b tk o, .slice a' n' k'] W fun e w' => RuP (act l o s ⟨(tk : Int), false, ad⟩) s tk e (fun s' => (∃ cs', Ar w' b cs' ∧ Enc cs' s') ∧ Fr w w' (fun k => k = b)) ∧ Fr W w' (fun k => k = b)) := fun W hW => by
    have hV' := hV
    rw [hpc] at hV'
    refine (inst_any s R b tk o sw _ (vw s tk).r pc (vw s tk).b cs a' n' k' cd W ⟨h.A.below hW, h.E, by omega, hV', hT.b1, by rw [h.shp.w]; omega, fun i hi => by rw [h.shp.w]; exact hcf i hi, (hW.block R (Array.getElem?_eq_some_iff.1 h.run).1).trans h.run, hC.below hW, by have := hC.1; omega, by have := hT.p1; have := hC.1; omega, h.nR⟩).mono ?_
    intro e w' D
    rw [hx]
    rcases D with ⟨a1, a2, a3, a4⟩ | ⟨y, a1, a2, a3, a4⟩
    · exact ⟨.inl ⟨a1, a2, a3, fr_two (Fr.of_below hW) a4⟩, a4⟩
    · exact ⟨.inr ⟨y, a1, a2, a3, fr_two (Fr.of_below hW) a4⟩, a4⟩
  have ngb : g ≠ b := fun e => by
    subst e
    rw [cell_blk h.A.1] at hcell
    by_cases hz : q + tk < 118
    · rw [h.E.2 _ hz] at hcell; cases hcell
    · rw [Array.getElem?_eq_none (by rw [h.A.2]; omega)] at hcell; cases hcell
  have nRb := h.nR
  have lb := (Array.getElem?_eq_some_iff.1 h.A.1).1
  have hbx : (w.alloc (.cells #[.int .i64 (tk : Int), .bool false, .int .i64 ad] 44)).heap[w.heap.size]? = some (.cells #[.int .i64 (tk : Int), .bool false, .int .i64 ad] 44 (0, 0)) := new_at _ _ _ rfl
  have c0 := cell_blk hbx 0
  have c1 := cell_blk hbx 1
  have c2 := cell_blk hbx 2
  have lR := (Array.getElem?_eq_some_iff.1 h.run).1
  have r1 := cell_blk ((B0.block R lR).trans h.run) 1
  have r2 := cell_blk ((B0.block R lR).trans h.run) 2
  simp only [rnV, List.getElem?_toArray, List.getElem?_cons_zero, List.getElem?_cons_succ] at r1 r2
  have lx := (Array.getElem?_eq_some_iff.1 hbx).1
  have lR1 := Nat.lt_of_lt_of_le lR B0.size
  have t0 := (B0.cell (p := ⟨g, q + tk, none⟩) hg).trans hcell
  have lg := Nat.lt_of_lt_of_le hg B0.size
  have WI := Mr.hid (fun W => within_any (tk : Int) 0 ((nt : Int) - 1) W)
  rw [show inB (tk : Int) 0 ((nt : Int) - 1) = true by simp [inB]; omega] at WI
  have hw1 : IntKind.i64.wrap ((nt : Int) - 1) = (nt : Int) - 1 := i64x _ (by omega) (by omega)
  have lkI : (tk : Int) < (nt : Int) := by omega
  replace B0 := Mr.hid B0
  clear h hx hbx hV hcd hT hc1 hc2 hc3 hgc hcell hC hpc hg hcf
  unfold tnV
  go_enter Tryd.func24, Tryd.ntmps24
  go_upto_region 1 with fail
  generalize w.alloc (.cells #[.int .i64 (tk : Int), .bool false, .int .i64 ad] 44) = w1 at *
  go_region_held3 (fun W => W.cell? ⟨w.heap.size, 0, none⟩ = some (.int .i64 (tk : Int)) ∧ W.cell? ⟨R, 1, none⟩ = some (.slice (some ⟨g, q, none⟩) nt ct)) (simp [*, go_sem])
    (first | (go_at_call 36; refine (WI.out _).mono ?_; rintro e w9 ⟨rfl, hw9⟩; obtain rfl := hw9.symm))
  go_upto_region 3 with fail
  go_region_held3 (fun W => W.cell? ⟨w.heap.size, 0, none⟩ = some (.int .i64 (tk : Int)) ∧ W.cell? ⟨R, 2, none⟩ = some (.int .i64 o)) (simp [*, go_sem]) (fail)
  have B3 : Below w1.heap.size w1 ((w1.alloc (.cells #[.pointer (some ⟨b, 0, none⟩), .int .i64 (tk : Int), .int .i64 o] 88)).drew.drew) := (((Below.refl _ _).alloc (Nat.le_refl _) _).drew).drew
  have hp : ((w1.alloc (.cells #[.pointer (some ⟨b, 0, none⟩), .int .i64 (tk : Int), .int .i64 o] 88)).drew.drew).heap[w1.heap.size]? = some (.cells #[.pointer (some ⟨b, 0, none⟩), .int .i64 (tk : Int), .int .i64 o] 88 (0, 0)) := new_at _ _ _ rfl
  have p0 := cell_blk hp 0
  have p1 := cell_blk hp 1
  have p2 := cell_blk hp 2
  have lp := (Array.getElem?_eq_some_iff.1 hp).1
  have k0 := (B3.cell (p := ⟨w.heap.size, 0, none⟩) lx).trans c0
  have k1 := (B3.cell (p := ⟨w.heap.size, 1, none⟩) lx).trans c1
  have k2 := (B3.cell (p := ⟨w.heap.size, 2, none⟩) lx).trans c2
  have z1 := (B3.cell (p := ⟨R, 1, none⟩) lR1).trans r1
  have lx3 := Nat.lt_of_lt_of_le lx B3.size
  have BW : Hid (Below w.heap.size w ((w1.alloc (.cells #[.pointer (some ⟨b, 0, none⟩), .int .i64 (tk : Int), .int .i64 o] 88)).drew.drew)) := B0.out.trans (B3.mono B0.out.size)
  have lR3 := Nat.lt_of_lt_of_le lR1 B3.size
  have lg3 := Nat.lt_of_lt_of_le lg B3.size
  have nH : w1.heap.size ≠ b := by have := B0.out.size; omega
  have nx : w.heap.size ≠ b := by omega
  clear c0 c1 c2 r1 r2 hp
  have t3 := (B3.cell (p := ⟨g, q + tk, none⟩) lg).trans t0
  clear t0 B3
  generalize ((w1.alloc (.cells #[.pointer (some ⟨b, 0, none⟩), .int .i64 (tk : Int), .int .i64 o] 88)).drew.drew) = w3 at *
  generalize w1.heap.size = H1 at *
  go_upto_region 6 with fail
  go_region_held3 (fun W => W.cell? ⟨H1, 0, none⟩ = some (.pointer (some ⟨b, 0, none⟩)) ∧ W.cell? ⟨H1, 1, none⟩ = some (.int .i64 (tk : Int)) ∧ W.cell? ⟨H1, 2, none⟩ = some (.int .i64 o) ∧ W.cell? ⟨R, 1, none⟩ = some (.slice (some ⟨g, q, none⟩) nt ct) ∧ W.cell? ⟨w.heap.size, 0, none⟩ = some (.int .i64 (tk : Int)) ∧ W.cell? ⟨g, q + tk, none⟩ = some (.slice a' n' k')) (simp [*, go_sem])
    (first | (go_at_call 38; refine (IN.out _ BW.out.drew).mono ?_; clear IN; rintro e w4 ⟨D, D9⟩; replace D := Mr.hid D; obtain ⟨bb, hbb⟩ : ∃ bb, e = .returned (.bool bb) := RuP.ret D.out; subst hbb; have y0 := (fr_cell (k := H1) (j := 0) D9 lp nH).trans p0; have y1 := (fr_cell (k := H1) (j := 1) D9 lp nH).trans p1; have y2 := (fr_cell (k := H1) (j := 2) D9 lp nH).trans p2; have y3 := (fr_cell (k := R) (j := 1) D9 lR3 nRb).trans z1; have y4 := (fr_cell (k := w.heap.size) (j := 0) D9 lx3 nx).trans k0; have y5 := (fr_cell (k := g) (j := q + tk) D9 lg3 ngb).trans t3; clear D9))
  go_wp2
  go_ret
  exact D.out
/-- A turn of the program is the pure one. -/
theorem turn_any (l : Lt) (s : Sv) (R b : Nat) (o : Int) (sw : Value) (at' : Option Addr) (nt ct : Nat) (cs : Array Value) (w : World) (h : Tpre l s R b o sw at' nt ct cs w) (tn : Tn) :
    Calls Tryd.prog 24 #[.pointer (some ⟨R, 0, none⟩), .pointer (some ⟨b, 0, none⟩), tnV tn] w fun e w' => e = .returned (.bool (act l o s tn).isSome) ∧ (∃ cs', Ar w' b cs' ∧ Enc cs' (trn l o s tn)) ∧ Fr w w' (fun k => k = b) := by
  have key : Calls Tryd.prog 24 #[.pointer (some ⟨R, 0, none⟩), .pointer (some ⟨b, 0, none⟩), tnV tn] w fun e w' => RuP (act l o s tn) s tn.th.toNat e (fun s' => (∃ cs', Ar w' b cs' ∧ Enc cs' s') ∧ Fr w w' (fun k => k = b)) := by
    cases hin : inB tn.th 0 ((nt : Int) - 1) with
    | false => exact turn_no l s R b o sw at' nt ct cs w h tn hin
    | true =>
      obtain ⟨th, ou, ad⟩ := tn
      simp only [inB, Bool.and_eq_true, decide_eq_true_eq] at hin
      obtain ⟨tk, rfl⟩ := Int.eq_ofNat_of_zero_le hin.1
      have hk : tk < nt := by omega
      cases ou with
      | true => exact turn_out l s R b o sw at' nt ct cs w h tk ad hk
      | false => exact turn_in l s R b o sw at' nt ct cs w h tk ad hk
  refine key.mono ?_
  intro e w' D
  unfold trn
  rcases D with ⟨a1, a2, a3, a4⟩ | ⟨y, a1, a2, a3, a4⟩
  · rw [a1]; exact ⟨a2, a3, a4⟩
  · rw [a1]; exact ⟨a2, a3, a4⟩
end Go.Proofs.YtmejblmeaipahaaDoor.Ts
