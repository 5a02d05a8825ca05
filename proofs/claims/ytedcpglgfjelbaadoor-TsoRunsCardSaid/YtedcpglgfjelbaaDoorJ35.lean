import Derived.Test.YtedcpglgfjelbaaDoorJ34
import Derived.ProofKit
import Derived.OpenShut
import Derived.Deep.Slices
import Derived.SizedLaws
import Derived.ChangeSame
/-
  TSO: the law of runs, walked.
-/
namespace Go.Proofs.YtedcpglgfjelbaaDoor.Ts
open Go.RowKit Mr
set_option linter.unusedVariables false
set_option linter.unusedSimpArgs false
set_option maxRecDepth 100000
set_option maxHeartbeats 16000000 in
theorem law_runs (aw : Option Addr) (nw cw : Nat) (ah : Option Addr) (nt ct : Nat) (l : Lt) (o : Int) (a : Option Addr) (n c : Nat) (ts : List Tn) (w : World) (hI : IsAt w aw nw l.ws) (hT : ThAt w ah nt l.th) (hz1 : nw * 8 ≤ 140737488351232) (hz2 : nt * 24 ≤ 140737488351232) (hz3 : ∀ c ∈ l.th, c.length * 56 ≤ 140737488351232) (hS : TnAt w a n ts) (hz4 : n * 24 ≤ 140737488351232) (E : Env w) :
    Calls Tryd.prog 3 #[.agg #[.slice aw nw cw, .slice ah nt ct], .int .i64 o, .slice a n c] w fun e w' => e = .returned (.bool true) ∧ Below w.heap.size w w' := by
  have B0 : Below w.heap.size w (w.alloc (.cells #[.slice aw nw cw, .slice ah nt ct] 25)) := (Below.refl _ _).alloc (Nat.le_refl _) _
  have b0 : (w.alloc (.cells #[.slice aw nw cw, .slice ah nt ct] 25)).heap[w.heap.size]? = some (.cells #[.slice aw nw cw, .slice ah nt ct] 25 (0, 0)) := new_at _ _ _ rfl
  have TW := Mr.hid (twin_any l aw nw cw ah nt ct _ (hI.below B0) (hT.below B0) hz1 hz2 hz3)
  have RU : Hid (∀ (W : World) (aw' ah' a' : Option Addr) (cw' ct' c' : Nat), Below w.heap.size w W → IsAt W aw' nw l.ws → ThAt W ah' nt l.th → TnAt W a' n ts → Calls Tryd.prog 6 #[.agg #[.slice aw' nw cw', .slice ah' nt ct'], .int .i64 o, .slice a' n c'] W fun e w' => RunP W w' (runR l o ts) e) := fun W aw' ah' a' cw' ct' c' hW h1 h2 h3 => Run_any l o ts aw' ah' a' nw cw' nt ct' n c' W ⟨E.below hW, h1, h2, h3, by omega⟩
  have DR : Hid (∀ (W : World), Below w.heap.size w W → Calls Tryd.prog 7 #[.agg #[.slice aw nw cw, .slice ah nt ct], .int .i64 o, .slice a n c] W fun e w' => DunP W w' (runR l o ts) e) := fun W hW => rRun_any l o ts aw ah a nw cw nt ct n c W ⟨hI.below hW, hT.below hW, hS.below hW, by omega⟩
  have hln := runR_len l o ts
  have SS : Hid (∀ (W : World) (v v' : Array Value), SvAt W v (runR l o ts).1 (runR l o ts).1.ws.length (runR l o ts).1.rg.length (runR l o ts).1.pl.length (runR l o ts).1.bf.length → SvAt W v' (runR l o ts).1 (runR l o ts).1.ws.length (runR l o ts).1.rg.length (runR l o ts).1.pl.length (runR l o ts).1.bf.length → Calls Tryd.prog 8 #[.agg v, .agg v'] W fun e w' => e = .returned (.bool true) ∧ Below W.heap.size W w') := fun W v v' h1 h2 => sameState_eq _ v v' _ _ _ _ W h1 h2 (by omega) (by omega) (by omega) (by omega) hln.2.2.2.2
  have SL : Hid (∀ (W : World) (aw' ah' : Option Addr) (cw' ct' : Nat), Below w.heap.size w W → IsAt W aw' nw l.ws → ThAt W ah' nt l.th → Calls Tryd.prog 10 #[.agg #[.slice aw' nw cw', .slice ah' nt ct'], .agg #[.slice aw nw cw, .slice ah nt ct]] W fun e w' => e = .returned (.bool true) ∧ Below W.heap.size W w') := fun W aw' ah' cw' ct' hW h1 h2 => sameLitmus_eq l aw' aw nw cw' cw ah' ah nt ct' ct W h1 (hI.below hW) h2 (hT.below hW) (by omega) (by omega) (fun c hc => by have := hz3 c hc; omega)
  have ST : Hid (∀ (W : World) (a' : Option Addr) (c' : Nat), Below w.heap.size w W → TnAt W a' n ts → Calls Tryd.prog 11 #[.slice a' n c', .slice a n c] W fun e w' => e = .returned (.bool true) ∧ Below W.heap.size W w') := fun W a' c' hW h1 => sameTurns_eq ts a' a n c' c W h1 (hS.below hW) (by omega)
  have NU := Mr.hid num_any
  have hS' := Mr.hid hS
  generalize hrr : runR l o ts = rr at *
  obtain ⟨rs, rc, re⟩ := rr
  dsimp only at SS
  replace hrr := Mr.hid hrr
  replace B0 := Mr.hid B0
  have c0 := cell_blk b0 0
  have c1 := cell_blk b0 1
  clear hI hT hS E hln hz1 hz2 hz3
  go_enter Tryd.func3, Tryd.ntmps3
  go_upto_region 2 with (go_at_call 5; refine TW.out.mono ?_; clear TW; rintro e w2 ⟨aw', cw', ah', ct', rfl, I2, T2, hc1, hc2, B2⟩; have e0 := (B2.block _ (Array.getElem?_eq_some_iff.1 b0).1).trans b0; have BB : Below w.heap.size w w2 := B0.out.trans (B2.mono B0.out.size); replace I2 := Mr.hid I2; replace T2 := Mr.hid T2; clear B2 b0 c0 c1)
  have B3 : Below w2.heap.size w2 (w2.alloc (.cells #[.slice aw' nw cw', .slice ah' nt ct'] 25)) := (Below.refl _ _).alloc (Nat.le_refl _) _
  have f0 : (w2.alloc (.cells #[.slice aw' nw cw', .slice ah' nt ct'] 25)).heap[w2.heap.size]? = some (.cells #[.slice aw' nw cw', .slice ah' nt ct'] 25 (0, 0)) := new_at _ _ _ rfl
  replace e0 := (B3.block _ (Array.getElem?_eq_some_iff.1 e0).1).trans e0
  replace I2 := Mr.hid (I2.out.below B3)
  replace T2 := Mr.hid (T2.out.below B3)
  replace BB := Mr.hid (BB.trans (B3.mono BB.size))
  clear B3
  generalize hx2 : w2.heap.size = x2 at *
  replace hx2 := Mr.hid hx2
  generalize (w2.alloc (.cells #[.slice aw' nw cw', .slice ah' nt ct'] 25)) = w3 at *
  have B4 : Below w3.heap.size w3 (w3.alloc (.cells #[] 44)) := (Below.refl _ _).alloc (Nat.le_refl _) _
  have hE4 : Has (w3.alloc (.cells #[] 44)) (fun k => w3.heap.size ≤ k) 44 3 (.slice (some ⟨w3.heap.size, 0, none⟩) 0 0) 0 [] := ⟨by simp, .inr ⟨w3.heap.size, 0, #[], rfl, Nat.le_refl _, new_at _ _ _ rfl, Nat.le_refl _, by decide, by simp, by simp⟩⟩
  have S4 := hS'.out.below (BB.out.trans (B4.mono BB.out.size))
  replace hE4 := Mr.hid hE4
  replace S4 := Mr.hid S4
  replace B4 := Mr.hid B4
  go_upto_region 3 with (at_builtin; refine wpList_plain rfl fun _ hK => wp_append_tn _ _ rfl w3.heap.size w3.heap.size rfl hE4.out _ _ _ ts rfl S4.out hz4 B4.out.size (fun ga ca w5 H5 hc5 hB5 => hK _ _ ?_); clear hK)
  have B5 : Below w3.heap.size w3 w5 := B4.out.trans hB5
  replace e0 := (B5.block _ (Array.getElem?_eq_some_iff.1 e0).1).trans e0
  replace f0 := (B5.block _ (Array.getElem?_eq_some_iff.1 f0).1).trans f0
  replace I2 := Mr.hid (I2.out.below B5)
  replace T2 := Mr.hid (T2.out.below B5)
  have B05 : Below w.heap.size w w5 := BB.out.trans (B5.mono BB.out.size)
  have R5 := Mr.hid (RU.out w5 aw' ah' (some ⟨ga, 0, none⟩) cw' ct' ca B05 I2.out T2.out H5)
  have g0 := cell_blk f0 0
  have g1 := cell_blk f0 1
  replace B05 := Mr.hid B05
  replace H5 := Mr.hid H5
  clear hB5 B5 B4 hE4 S4 BB hx2
  go_upto_region 4 with (go_at_call 6; refine R5.out.mono ?_; clear R5 RU; rintro e w6 ⟨v6, rfl, D6, B6⟩; obtain ⟨p1, q1, p2, q2, p3, q3, p4, q4, rfl, D6'⟩ := D6.ex; clear D6'; dsimp only at D6; replace D6 := Mr.hid D6; replace B6 := Mr.hid B6)
  obtain ⟨m1, hm1⟩ : ∃ m, m = rs.ws.length := ⟨_, rfl⟩
  obtain ⟨m2, hm2⟩ : ∃ m, m = rs.rg.length := ⟨_, rfl⟩
  obtain ⟨m3, hm3⟩ : ∃ m, m = rs.pl.length := ⟨_, rfl⟩
  obtain ⟨m4, hm4⟩ : ∃ m, m = rs.bf.length := ⟨_, rfl⟩
  rw [← hm1, ← hm2, ← hm3, ← hm4] at D6 SS ⊢
  replace hm1 := Mr.hid hm1
  replace hm2 := Mr.hid hm2
  replace hm3 := Mr.hid hm3
  replace hm4 := Mr.hid hm4
  have B7 : Below w6.heap.size w6 (w6.alloc (.cells #[.slice p1 m1 q1, .slice p2 m2 q2, .slice p3 m3 q3, .slice p4 m4 q4] 32)) := (Below.refl _ _).alloc (Nat.le_refl _) _
  have B57 : Below w5.heap.size w5 (w6.alloc (.cells #[.slice p1 m1 q1, .slice p2 m2 q2, .slice p3 m3 q3, .slice p4 m4 q4] 32)) := B6.out.trans (B7.mono B6.out.size)
  have h0 : (w6.alloc (.cells #[.slice p1 m1 q1, .slice p2 m2 q2, .slice p3 m3 q3, .slice p4 m4 q4] 32)).heap[w6.heap.size]? = some (.cells #[.slice p1 m1 q1, .slice p2 m2 q2, .slice p3 m3 q3, .slice p4 m4 q4] 32 (0, 0)) := new_at _ _ _ rfl
  replace D6 := Mr.hid (D6.out.below B7)
  replace e0 := (B57.block _ (Array.getElem?_eq_some_iff.1 e0).1).trans e0
  replace f0 := (B57.block _ (Array.getElem?_eq_some_iff.1 f0).1).trans f0
  replace I2 := Mr.hid (I2.out.below B57)
  replace T2 := Mr.hid (T2.out.below B57)
  replace H5 := Mr.hid (H5.out.below B57)
  have B07 : Below w.heap.size w (w6.alloc (.cells #[.slice p1 m1 q1, .slice p2 m2 q2, .slice p3 m3 q3, .slice p4 m4 q4] 32)) := B05.out.trans (B57.mono B05.out.size)
  have R7 := Mr.hid (DR.out _ B07)
  have k0 := cell_blk e0 0
  have k1 := cell_blk e0 1
  replace B07 := Mr.hid B07
  clear B7 B57 B05 B6 g0 g1
  generalize hx6 : w6.heap.size = x6 at *
  replace hx6 := Mr.hid hx6
  generalize (w6.alloc (.cells #[.slice p1 m1 q1, .slice p2 m2 q2, .slice p3 m3 q3, .slice p4 m4 q4] 32)) = w7 at *
  go_upto_region 5 with (go_at_call 7; refine R7.out.mono ?_; clear R7 DR; rintro e w8 ⟨v8, rfl, D8, B8⟩; obtain ⟨r1, s1, r2, s2, r3, s3, r4, s4, rfl, D8'⟩ := D8.ex; clear D8'; dsimp only at D8; rw [← hm1.out, ← hm2.out, ← hm3.out, ← hm4.out] at D8; replace D8 := Mr.hid D8; replace B8 := Mr.hid B8)
  rw [← hm1.out, ← hm2.out, ← hm3.out, ← hm4.out]
  have B9 : Below w8.heap.size w8 (w8.alloc (.cells #[.slice r1 m1 s1, .slice r2 m2 s2, .slice r3 m3 s3, .slice r4 m4 s4] 32)) := (Below.refl _ _).alloc (Nat.le_refl _) _
  have B79 : Below w7.heap.size w7 (w8.alloc (.cells #[.slice r1 m1 s1, .slice r2 m2 s2, .slice r3 m3 s3, .slice r4 m4 s4] 32)) := B8.out.trans (B9.mono B8.out.size)
  have i0 : (w8.alloc (.cells #[.slice r1 m1 s1, .slice r2 m2 s2, .slice r3 m3 s3, .slice r4 m4 s4] 32)).heap[w8.heap.size]? = some (.cells #[.slice r1 m1 s1, .slice r2 m2 s2, .slice r3 m3 s3, .slice r4 m4 s4] 32 (0, 0)) := new_at _ _ _ rfl
  replace D8 := D8.out.below B9
  replace D6 := D6.out.below B79
  replace h0 := (B79.block _ (Array.getElem?_eq_some_iff.1 h0).1).trans h0
  replace e0 := (B79.block _ (Array.getElem?_eq_some_iff.1 e0).1).trans e0
  replace f0 := (B79.block _ (Array.getElem?_eq_some_iff.1 f0).1).trans f0
  replace I2 := Mr.hid (I2.out.below B79)
  replace T2 := Mr.hid (T2.out.below B79)
  replace H5 := Mr.hid (H5.out.below B79)
  have B09 : Below w.heap.size w (w8.alloc (.cells #[.slice r1 m1 s1, .slice r2 m2 s2, .slice r3 m3 s3, .slice r4 m4 s4] 32)) := B07.out.trans (B79.mono B07.out.size)
  have S9 := Mr.hid (SS.out _ _ _ D6 D8)
  have l0 := cell_blk h0 0
  have l1 := cell_blk h0 1
  have l2 := cell_blk h0 2
  have l3 := cell_blk h0 3
  have n0 := cell_blk i0 0
  have n1 := cell_blk i0 1
  have n2 := cell_blk i0 2
  have n3 := cell_blk i0 3
  replace B09 := Mr.hid B09
  clear B9 B79 B07 B8 k0 k1 SS D6 D8
  generalize hx8 : w8.heap.size = x8 at *
  replace hx8 := Mr.hid hx8
  generalize (w8.alloc (.cells #[.slice r1 m1 s1, .slice r2 m2 s2, .slice r3 m3 s3, .slice r4 m4 s4] 32)) = w9 at *
  have zc : ((rc : Int) == (rc : Int)) = true := by simp
  have ze : (re == re) = true := by simp
  go_wp2_with (first
    | (go_at_call 8; refine S9.out.mono ?_; clear S9; rintro e w10 ⟨rfl, B10⟩; have B010 : Hid (Below w.heap.size w w10) := B09.out.trans (B10.mono B09.out.size); have j0 := (B10.block _ (Array.getElem?_eq_some_iff.1 e0).1).trans e0; have j1 := (B10.block _ (Array.getElem?_eq_some_iff.1 f0).1).trans f0; have a0 := cell_blk j0 0; have a1 := cell_blk j0 1; have b0 := cell_blk j1 0; have b1 := cell_blk j1 1; have S10 := Mr.hid (SL.out w10 aw' ah' cw' ct' B010.out (I2.out.below B10) (T2.out.below B10)); have H10 := Mr.hid (H5.out.below B10); clear B10)
    | (go_at_call 9; refine (NU.out _ _).mono ?_; rintro e w99 ⟨rfl, hw99⟩; obtain rfl := hw99.symm)
    | (go_at_call 10; refine S10.out.mono ?_; clear S10; rintro e w11 ⟨rfl, B11⟩; have B011 : Hid (Below w.heap.size w w11) := B010.out.trans (B11.mono B010.out.size); have S11 := Mr.hid (ST.out w11 (some ⟨ga, 0, none⟩) ca B011.out (H10.out.below B11)); clear B11)
    | (go_at_call 11; refine S11.out.mono ?_; clear S11; rintro e w12 ⟨rfl, B12⟩; have B012 : Hid (Below w.heap.size w w12) := B011.out.trans (B12.mono B011.out.size); clear B12))
  go_ret
  exact ⟨by simp, B012.out⟩
end Go.Proofs.YtedcpglgfjelbaaDoor.Ts
/-
  TSO: opening a program and turns that came in.
-/
namespace Go.Proofs.YtedcpglgfjelbaaDoor.Ts
open Go.ChangeShapes Go.WideShapes Go.ChangeAt Go.RowKit Go.Deep Mr
set_option linter.unusedVariables false
theorem ci : Tryd.prog.cellsOf 3 = 1 := by kernel_rfl
theorem cbo : Tryd.prog.cellsOf 4 = 1 := by kernel_rfl
theorem cik : Tryd.prog.cellsOf 71 = 1 := by kernel_rfl
theorem cin : Tryd.prog.cellsOf 73 = 7 := by kernel_rfl
theorem csl : Tryd.prog.cellsOf 58 = 1 := by kernel_rfl
theorem csi : Tryd.prog.cellsOf 22 = 1 := by kernel_rfl
theorem cst : Tryd.prog.cellsOf 23 = 1 := by kernel_rfl
theorem ctu : Tryd.prog.cellsOf 44 = 3 := by kernel_rfl
theorem byi : Tryd.prog.bytesOf 3 = 8 := by kernel_rfl
theorem byn : Tryd.prog.bytesOf 73 = 56 := by kernel_rfl
theorem bys : Tryd.prog.bytesOf 58 = 24 := by kernel_rfl
theorem byt : Tryd.prog.bytesOf 44 = 24 := by kernel_rfl
/-- A list out of what holds of each number. -/
theorem list_of {α : Type} (n : Nat) (d : α) (P : Nat → α → Prop) (h : ∀ i, i < n → ∃ x, P i x) : ∃ xs : List α, xs.length = n ∧ ∀ j x, xs[j]? = some x → P j x := by
  classical
  refine ⟨(List.range n).map fun i => if h' : i < n then Classical.choose (h i h') else d, by simp, fun j x hx => ?_⟩
  have hj : j < n := by have := (List.getElem?_eq_some_iff.1 hx).1; simpa using this
  simp [hj] at hx
  subst hx
  exact Classical.choose_spec (h j hj)
section
variable {H : Type} {enc : TypeId × Value → H} {w : World} {base : Nat} {spare : Nat → Bool} {held : Bool}
theorem fld {n : Nat} {ty : TypeId} {fs : Array Field} {cs : List Value} {x : DataW H × List MemPlace} (hs : Tryd.prog.underlying ty = some (.struct fs)) (h : DataW.trod enc Tryd.prog w base spare held n ty cs = some x) (t : Nat) (f : Field) (hf : fs[t]? = some f) (ho : f.offset = t) (hc : Tryd.prog.cellsOf f.type = 1) : ∃ m y, DataW.trod enc Tryd.prog w base spare held m f.type ((cs.drop t).take 1) = some y := by
  obtain ⟨xs, m, _, _, hl, hxl, hx⟩ := DataW.trod_struct hs h
  have q := hx t f hf
  rw [ho, hc] at q
  have ht : t < fs.size := (Array.getElem?_eq_some_iff.1 hf).1
  rw [List.getElem?_eq_getElem (by omega)] at q
  exact ⟨m, _, q⟩
theorem at_of {cs : List Value} {t : Nat} {v : Value} (h : (cs.drop t).take 1 = [v]) : cs[t]? = some v := by
  have : ((cs.drop t).take 1)[0]? = some v := by rw [h]; rfl
  rw [List.getElem?_take] at this
  simpa using this
theorem fldI {n : Nat} {ty : TypeId} {fs : Array Field} {cs : List Value} {x : DataW H × List MemPlace} (hs : Tryd.prog.underlying ty = some (.struct fs)) (h : DataW.trod enc Tryd.prog w base spare held n ty cs = some x) (t : Nat) (f : Field) (hf : fs[t]? = some f) (ho : f.offset = t) (hc : Tryd.prog.cellsOf f.type = 1) (hk : Tryd.prog.underlying f.type = some (.int .i64)) : ∃ z, cs[t]? = some (Value.int .i64 z) := by
  obtain ⟨m, y, q⟩ := fld hs h t f hf ho hc
  obtain ⟨z, hz, _, _⟩ := DataW.trod_int hk q
  exact ⟨z, at_of hz⟩
theorem fldB {n : Nat} {ty : TypeId} {fs : Array Field} {cs : List Value} {x : DataW H × List MemPlace} (hs : Tryd.prog.underlying ty = some (.struct fs)) (h : DataW.trod enc Tryd.prog w base spare held n ty cs = some x) (t : Nat) (f : Field) (hf : fs[t]? = some f) (ho : f.offset = t) (hc : Tryd.prog.cellsOf f.type = 1) (hk : Tryd.prog.underlying f.type = some .bool) : ∃ z, cs[t]? = some (Value.bool z) := by
  obtain ⟨m, y, q⟩ := fld hs h t f hf ho hc
  obtain ⟨z, hz, _⟩ := DataW.trod_bool hk q
  exact ⟨z, at_of hz⟩
theorem spn {a : Addr} {i : Nat} {v : Value} (h : w.cell? (a.add i) = some v) : a.spot = none ∨ i ≠ 0 := by
  by_cases e : i = 0
  · subst e
    have := World.cell?_spot h
    left
    simpa [Addr.add] using this
  · exact .inr e
theorem adv (a : Addr) (i j : Nat) (v : Value) (ha : a.spot = none) (h : w.cell? ((a.add i).add j) = some v) : w.cell? ⟨a.block, a.off + i + j, none⟩ = some v := by
  obtain ⟨b, o, s⟩ := a
  simp at ha
  subst ha
  rw [add1, add1] at h
  exact h
theorem ad0 (a : Addr) (i : Nat) (v : Value) (ha : a.spot = none) (h : w.cell? (a.add i) = some v) : w.cell? ⟨a.block, a.off + i, none⟩ = some v := by
  obtain ⟨b, o, s⟩ := a
  simp at ha
  subst ha
  rw [add1] at h
  exact h
theorem some_of {a : Addr} (h : a.spot = none) : (some a : Option Addr) = some ⟨a.block, a.off, none⟩ := by
  obtain ⟨b, o, s⟩ := a
  simp at h
  subst h
  rfl
def SzD (x : DataW H) (n : Nat) : Prop := n = 0 ∨ ∃ es rs, x = .slice es rs ∧ es.length = n
theorem open_ints {fuel : Nat} {cs : List Value} {x : DataW H × List MemPlace} (hf : DataW.trod enc Tryd.prog w base spare held fuel 22 cs = some x) : ∃ a n cap xs, cs = [.slice a n cap] ∧ IsAt w a n xs ∧ SzD x.1 n := by
  rcases open_slice Tryd.underlying22 hf with ⟨hc, hx⟩ | ⟨ad, n, cap, m, k, D, Pl, hc, _, hl, _, hm, hx, hel⟩
  · exact ⟨none, 0, 0, [], hc, ⟨rfl, .inl rfl⟩, .inl rfl⟩
  · have hle : n ≤ m := by rw [hm]; split <;> omega
    obtain ⟨xs, hxl, hxs⟩ := list_of n (0 : Int) (fun i z => w.cell? (ad.add i) = some (.int .i64 z)) (fun i hi => by
      obtain ⟨cs', h1, h2⟩ := hel i (by omega)
      rw [ci] at h1
      obtain ⟨_, hcl, hce⟩ := World.cells?_some h1
      obtain ⟨z, hz, _, _⟩ := DataW.trod_int Tryd.underlying3 h2
      subst hz
      have h9 := hce 0 (by simp)
      rw [Nat.mul_one] at h9
      refine ⟨z, ?_⟩
      have e : (ad.add i).add 0 = ad.add i := by unfold Addr.add; split <;> simp_all
      rw [e] at h9
      exact h9)
    refine ⟨some ad, n, cap, xs, hc, ⟨hxl.symm, ?_⟩, .inr ⟨_, _, by rw [hx], by simp⟩⟩
    by_cases hn : xs = []
    · exact .inl hn
    · have h0 : 0 < xs.length := List.length_pos_iff.2 hn
      have c0 := hxs 0 _ (List.getElem?_eq_getElem h0)
      have hsp : ad.spot = none := (spn c0).resolve_right (by simp)
      refine .inr ⟨ad.block, ad.off, some_of hsp, ?_, fun j z hz => ad0 ad j _ hsp (hxs j z hz)⟩
      exact World.block_lt_of_cell? w ⟨ad.block, ad.off + 0, none⟩ (ad0 ad 0 _ hsp c0)
theorem open_code {fuel : Nat} {cs : List Value} {x : DataW H × List MemPlace} (hf : DataW.trod enc Tryd.prog w base spare held fuel 58 cs = some x) : ∃ a n cap c, cs = [.slice a n cap] ∧ CdAt w a n c ∧ n ≤ cap ∧ SzD x.1 n := by
  rcases open_slice Tryd.underlying58 hf with ⟨hc, hx⟩ | ⟨ad, n, cap, m, k, D, Pl, hc, _, hl, _, hm, hx, hel⟩
  · exact ⟨none, 0, 0, [], hc, ⟨rfl, .inl rfl⟩, Nat.le_refl _, .inl rfl⟩
  · have hle : n ≤ m := by rw [hm]; split <;> omega
    obtain ⟨xs, hxl, hxs⟩ := list_of n noIn (fun i z => ∀ f u, z.cells[f]? = some u → w.cell? ((ad.add (i * 7)).add f) = some u) (fun i hi => by
      obtain ⟨cs', h1, h2⟩ := hel i (by omega)
      rw [cin] at h1
      obtain ⟨_, hcl, hce⟩ := World.cells?_some h1
      obtain ⟨z0, e0⟩ := fldI Tryd.underlying73 h2 0 _ rfl rfl cik Tryd.underlying71
      obtain ⟨z1, e1⟩ := fldI Tryd.underlying73 h2 1 _ rfl rfl ci Tryd.underlying3
      obtain ⟨z2, e2⟩ := fldI Tryd.underlying73 h2 2 _ rfl rfl ci Tryd.underlying3
      obtain ⟨z3, e3⟩ := fldI Tryd.underlying73 h2 3 _ rfl rfl ci Tryd.underlying3
      obtain ⟨z4, e4⟩ := fldI Tryd.underlying73 h2 4 _ rfl rfl ci Tryd.underlying3
      obtain ⟨z5, e5⟩ := fldI Tryd.underlying73 h2 5 _ rfl rfl ci Tryd.underlying3
      obtain ⟨z6, e6⟩ := fldI Tryd.underlying73 h2 6 _ rfl rfl ci Tryd.underlying3
      refine ⟨⟨z0, z1, z2, z3, z4, z5, z6⟩, fun f u hu => ?_⟩
      match f, hu with
      | 0, hu => cases hu; exact (hce 0 (by omega)).trans e0
      | 1, hu => cases hu; exact (hce 1 (by omega)).trans e1
      | 2, hu => cases hu; exact (hce 2 (by omega)).trans e2
      | 3, hu => cases hu; exact (hce 3 (by omega)).trans e3
      | 4, hu => cases hu; exact (hce 4 (by omega)).trans e4
      | 5, hu => cases hu; exact (hce 5 (by omega)).trans e5
      | 6, hu => cases hu; exact (hce 6 (by omega)).trans e6)
    refine ⟨some ad, n, cap, xs, hc, ⟨hxl.symm, ?_⟩, hl, .inr ⟨_, _, by rw [hx], by simp⟩⟩
    by_cases hn : xs = []
    · exact .inl hn
    · have h0 : 0 < xs.length := List.length_pos_iff.2 hn
      have c0 := hxs 0 _ (List.getElem?_eq_getElem h0) 0 _ rfl
      rw [Nat.zero_mul] at c0
      have e00 : (ad.add 0).add 0 = ad.add 0 := by unfold Addr.add; split <;> simp_all
      rw [e00] at c0
      have hsp : ad.spot = none := (spn c0).resolve_right (by simp)
      refine .inr ⟨ad.block, ad.off, some_of hsp, World.block_lt_of_cell? w ⟨ad.block, ad.off + 0, none⟩ (ad0 ad 0 _ hsp c0), fun j z hz f u hu => adv ad (j * 7) f u hsp (hxs j z hz f u hu)⟩
theorem all_mem {P : Program} {e : TypeId} : ∀ {ds : List (DataW H)} {d : DataW H}, d ∈ ds → ∀ n ∈ d.weights P e, n ∈ DataW.weightsAll P e ds
  | [], d, h, n, hn => by simp at h
  | x :: ds, d, h, n, hn => by
    simp only [DataW.weightsAll, List.mem_append]
    rcases List.mem_cons.1 h with rfl | h
    · exact .inl hn
    · exact .inr (all_mem h n hn)
theorem sz_of {x : DataW H} {t e : TypeId} {n b : Nat} (h : SzD x n) (ht : Tryd.prog.underlying t = some (.slice e)) (hb : Tryd.prog.bytesOf e = b) (hw : ∀ k ∈ x.weights Tryd.prog t, k ≤ reachBytes) : n * b ≤ 140737488351232 := by
  rcases h with rfl | ⟨es, rs, rfl, rfl⟩
  · omega
  · have h1 := hw ((es.length + rs.length) * Tryd.prog.bytesOf e) (by unfold DataW.weights; rw [ht]; simp)
    have e1 : reachBytes = 140737488351232 := by decide
    rw [hb, e1, Nat.add_mul] at h1
    omega
theorem open_threads {fuel : Nat} {cs : List Value} {x : DataW H × List MemPlace} (hf : DataW.trod enc Tryd.prog w base spare held fuel 23 cs = some x) (hw : ∀ k ∈ x.1.weights Tryd.prog 23, k ≤ reachBytes) : ∃ a n cap th, cs = [.slice a n cap] ∧ ThAt w a n th ∧ SzD x.1 n ∧ ∀ c ∈ th, c.length * 56 ≤ 140737488351232 := by
  rcases open_slice Tryd.underlying23 hf with ⟨hc, hx⟩ | ⟨ad, n, cap, m, k, D, Pl, hc, _, hl, _, hm, hx, hel⟩
  · exact ⟨none, 0, 0, [], hc, ⟨rfl, .inl rfl⟩, .inl rfl, fun c hc => by simp at hc⟩
  · have hle : n ≤ m := by rw [hm]; split <;> omega
    obtain ⟨xs, hxl, hxs⟩ := list_of n ([] : List In) (fun i c => ∃ a' n' c', w.cell? (ad.add i) = some (.slice a' n' c') ∧ n' ≤ c' ∧ CdAt w a' n' c ∧ c.length * 56 ≤ 140737488351232) (fun i hi => by
      obtain ⟨cs', h1, h2⟩ := hel i (by omega)
      rw [csl] at h1
      obtain ⟨_, hcl, hce⟩ := World.cells?_some h1
      obtain ⟨a', n', c', cd, he, hC, hn', hS⟩ := open_code h2
      subst he
      have h9 := hce 0 (by simp)
      rw [Nat.mul_one] at h9
      have e : (ad.add i).add 0 = ad.add i := by unfold Addr.add; split <;> simp_all
      rw [e] at h9
      refine ⟨cd, a', n', c', h9, hn', hC, ?_⟩
      have hDm : D i ∈ (List.range n).map D := List.mem_map.2 ⟨i, List.mem_range.2 hi, rfl⟩
      have hb := sz_of hS Tryd.underlying58 byn (fun k hk => hw k (by
        rw [hx]
        show k ∈ DataW.weights Tryd.prog 23 (.slice ((List.range n).map D) _)
        unfold DataW.weights
        rw [Tryd.underlying23]
        simp only [List.mem_cons, List.mem_append]
        exact .inr (.inl (all_mem hDm k hk))))
      rw [← hC.1]; exact hb)
    refine ⟨some ad, n, cap, xs, hc, ⟨hxl.symm, ?_⟩, .inr ⟨_, _, by rw [hx], by simp⟩, fun c hc => ?_⟩
    · by_cases hn : xs = []
      · exact .inl hn
      · have h0 : 0 < xs.length := List.length_pos_iff.2 hn
        obtain ⟨_, _, _, c0, -⟩ := hxs 0 _ (List.getElem?_eq_getElem h0)
        have hsp : ad.spot = none := (spn c0).resolve_right (by simp)
        refine .inr ⟨ad.block, ad.off, some_of hsp, World.block_lt_of_cell? w ⟨ad.block, ad.off + 0, none⟩ (ad0 ad 0 _ hsp c0), fun j c hj => ?_⟩
        obtain ⟨a', n', c', q1, q2, q3, -⟩ := hxs j c hj
        exact ⟨a', n', c', ad0 ad j _ hsp q1, q2, q3⟩
    · obtain ⟨j, hj⟩ := List.getElem?_of_mem hc
      obtain ⟨_, _, _, _, _, _, q⟩ := hxs j c hj
      exact q
theorem open_tns {fuel : Nat} {cs : List Value} {x : DataW H × List MemPlace} (hf : DataW.trod enc Tryd.prog w base spare held fuel 27 cs = some x) : ∃ a n cap ts, cs = [.slice a n cap] ∧ TnAt w a n ts ∧ SzD x.1 n := by
  rcases open_slice Tryd.underlying27 hf with ⟨hc, hx⟩ | ⟨ad, n, cap, m, k, D, Pl, hc, _, hl, _, hm, hx, hel⟩
  · exact ⟨none, 0, 0, [], hc, ⟨rfl, .inl rfl⟩, .inl rfl⟩
  · have hle : n ≤ m := by rw [hm]; split <;> omega
    obtain ⟨xs, hxl, hxs⟩ := list_of n (⟨0, false, 0⟩ : Tn) (fun i z => w.cell? ((ad.add (i * 3)).add 0) = some (.int .i64 z.th) ∧ w.cell? ((ad.add (i * 3)).add 1) = some (.bool z.ou) ∧ w.cell? ((ad.add (i * 3)).add 2) = some (.int .i64 z.ad)) (fun i hi => by
      obtain ⟨cs', h1, h2⟩ := hel i (by omega)
      rw [ctu] at h1
      obtain ⟨_, hcl, hce⟩ := World.cells?_some h1
      obtain ⟨z0, e0⟩ := fldI Tryd.underlying44 h2 0 _ rfl rfl ci Tryd.underlying3
      obtain ⟨z1, e1⟩ := fldB Tryd.underlying44 h2 1 _ rfl rfl cbo Tryd.underlying4
      obtain ⟨z2, e2⟩ := fldI Tryd.underlying44 h2 2 _ rfl rfl ci Tryd.underlying3
      exact ⟨⟨z0, z1, z2⟩, (hce 0 (by omega)).trans e0, (hce 1 (by omega)).trans e1, (hce 2 (by omega)).trans e2⟩)
    refine ⟨some ad, n, cap, xs, hc, ⟨hxl.symm, ?_⟩, .inr ⟨_, _, by rw [hx], by simp⟩⟩
    by_cases hn : xs = []
    · exact .inl hn
    · have h0 : 0 < xs.length := List.length_pos_iff.2 hn
      have c0 := (hxs 0 _ (List.getElem?_eq_getElem h0)).1
      rw [Nat.zero_mul] at c0
      have e00 : (ad.add 0).add 0 = ad.add 0 := by unfold Addr.add; split <;> simp_all
      rw [e00] at c0
      have hsp : ad.spot = none := (spn c0).resolve_right (by simp)
      refine .inr ⟨ad.block, ad.off, some_of hsp, World.block_lt_of_cell? w ⟨ad.block, ad.off + 0, none⟩ (ad0 ad 0 _ hsp c0), fun j z hz => ?_⟩
      obtain ⟨q0, q1, q2⟩ := hxs j z hz
      exact ⟨adv ad (j * 3) 0 _ hsp q0, adv ad (j * 3) 1 _ hsp q1, adv ad (j * 3) 2 _ hsp q2⟩
set_option maxRecDepth 100000 in
theorem open_lit {ts : List TypeId} {ds : List (DataW H)} {r : Reach} {b0 : Nat} {v : Value} {d : DataW H} {p : List MemPlace} (hv : Value.okWide Tryd.prog w r b0 25 v) (h : DataW.Trod enc Tryd.prog w base spare held 25 v d p) (hsz : (DataW.weightsEach Tryd.prog ts ds).all (· ≤ reachBytes) = true) (j : Nat) (ht : ts[j]? = some 25) (hd : ds[j]? = some d) :
    ∃ (aw : Option Addr) (nw cw : Nat) (ah : Option Addr) (nt ct : Nat) (l : Lt), v = .agg #[.slice aw nw cw, .slice ah nt ct] ∧ IsAt w aw nw l.ws ∧ ThAt w ah nt l.th ∧ nw * 8 ≤ 140737488351232 ∧ nt * 24 ≤ 140737488351232 ∧ ∀ c ∈ l.th, c.length * 56 ≤ 140737488351232 := by
  have hwt : ∀ k ∈ d.weights Tryd.prog 25, k ≤ reachBytes := fun k hk => by
    have := List.all_eq_true.1 hsz k (DataW.weights_mem_each ht hd k hk)
    simpa using this
  obtain ⟨cs, rfl, hcs⟩ := okWide_struct Tryd.underlying25 hv
  obtain ⟨fuel, hf⟩ := h
  obtain ⟨y0, y1, m, hx, hl, q0, q1⟩ := trod_struct2 Tryd.underlying25 hf
  have hd2 : d = .agg [y0.1, y1.1] := congrArg Prod.fst hx
  subst hd2
  have hw0 : ∀ k ∈ y0.1.weights Tryd.prog 22, k ≤ reachBytes := fun k hk => hwt k (by
    unfold DataW.weights
    rw [Tryd.underlying25]
    exact DataW.weights_mem_each (ts := [22, 23]) (ds := [y0.1, y1.1]) (j := 0) rfl rfl k hk)
  have hw1 : ∀ k ∈ y1.1.weights Tryd.prog 23, k ≤ reachBytes := fun k hk => hwt k (by
    unfold DataW.weights
    rw [Tryd.underlying25]
    exact DataW.weights_mem_each (ts := [22, 23]) (ds := [y0.1, y1.1]) (j := 1) rfl rfl k hk)
  obtain ⟨a0, n0, c0, ws, e0, hI, s0⟩ := open_ints q0
  obtain ⟨a1, n1, c1, th, e1, hT, s1, hc⟩ := open_threads q1 hw1
  have f0 : cs.toList[0]? = some (.slice a0 n0 c0) := at_of (t := 0) (by have h9 : (Value.agg cs).cells.toList = cs.toList := rfl; rw [h9] at e0; simpa [csi] using e0)
  have f1 : cs.toList[1]? = some (.slice a1 n1 c1) := at_of (t := 1) (by have h9 : (Value.agg cs).cells.toList = cs.toList := rfl; rw [h9] at e1; simpa [cst] using e1)
  have hl2 : cs.toList.length = 2 := by
    have h9 : Tryd.prog.cellsOf 25 = 2 := by kernel_rfl
    have h8 : (Value.agg cs).cells.toList.length = Tryd.prog.cellsOf 25 := hl
    rw [h9] at h8
    exact h8
  have hc2 : cs = #[.slice a0 n0 c0, .slice a1 n1 c1] := by
    apply Array.ext'
    apply List.ext_getElem?
    intro i
    match i with
    | 0 => exact f0
    | 1 => exact f1
    | i + 2 => rw [List.getElem?_eq_none (by omega)]; rfl
  subst hc2
  exact ⟨a0, n0, c0, a1, n1, c1, ⟨ws, th⟩, rfl, hI, hT, sz_of s0 Tryd.underlying22 byi hw0, sz_of s1 Tryd.underlying23 bys hw1, hc⟩
set_option maxRecDepth 100000 in
theorem open_trn {ts : List TypeId} {ds : List (DataW H)} {r : Reach} {b0 : Nat} {v : Value} {d : DataW H} {p : List MemPlace} (hv : Value.okWide Tryd.prog w r b0 27 v) (h : DataW.Trod enc Tryd.prog w base spare held 27 v d p) (hsz : (DataW.weightsEach Tryd.prog ts ds).all (· ≤ reachBytes) = true) (j : Nat) (ht : ts[j]? = some 27) (hd : ds[j]? = some d) :
    ∃ (a : Option Addr) (n c : Nat) (xs : List Tn), v = .slice a n c ∧ TnAt w a n xs ∧ n * 24 ≤ 140737488351232 := by
  have hwt : ∀ k ∈ d.weights Tryd.prog 27, k ≤ reachBytes := fun k hk => by
    have := List.all_eq_true.1 hsz k (DataW.weights_mem_each ht hd k hk)
    simpa using this
  obtain ⟨a, n, cap, rfl⟩ := okWide_slice Tryd.underlying27 hv
  obtain ⟨fuel, hf⟩ := h
  obtain ⟨a', n', cap', xs, hc, hm, hs⟩ := open_tns hf
  simp [Value.cells] at hc
  obtain ⟨rfl, rfl, rfl⟩ := hc
  exact ⟨_, _, _, xs, rfl, hm, sz_of hs Tryd.underlying27 byt hwt⟩
end
end Go.Proofs.YtedcpglgfjelbaaDoor.Ts
