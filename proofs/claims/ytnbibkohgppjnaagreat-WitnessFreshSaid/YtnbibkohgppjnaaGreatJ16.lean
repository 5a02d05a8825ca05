import Derived.Test.YtnbibkohgppjnaaGreatJ14
import Derived.Test.YtnbibkohgppjnaaGreatJ15
import Derived.Test.YtnbibkohgppjnaaGreatJ10
import Derived.BigQuiet
import Derived.Deep.RegionWith
import Derived.Test.YtnbibkohgppjnaaGreatJ03
import Derived.Deep.RegionHeld3
import Derived.LoopN
set_option linter.unusedVariables false
set_option linter.unusedSimpArgs false
set_option maxRecDepth 100000
namespace Go.Proofs.YtnbibkohgppjnaaGreat.Ws
open Go.RowKit Mr Md Wt
def sbO (vc vn : Value) (ah : Nat → Nat) (en : Nat) (mv : Value) : Obj :=
 .cells #[vc, vn, gv (ah 0), gv (ah 1), gv (ah 2), gv (ah 3), gv (ah 4), gv (ah 5), gv (ah 6), gv (ah 7), gv en, mv] 68 (0, 0)
theorem sb_cells {W : World} {b : Nat} {vc vn mv : Value} {ah : Nat → Nat} {en : Nat} (h : W.heap[b]? = some (sbO vc vn ah en mv)) :
  b < W.heap.size ∧ W.cell? ⟨b, 0, none⟩ = some vc ∧ W.cell? ⟨b, 1, none⟩ = some vn ∧ W.cell? ⟨b, 10, none⟩ = some (.int .u64 (en : Int)) ∧ W.cell? ⟨b, 11, none⟩ = some mv := by
 refine ⟨(Array.getElem?_eq_some_iff.1 h).1, ?_, ?_, ?_, ?_⟩ <;> (unfold World.cell?; rw [h]; rfl)
theorem sb_ah {W : World} {b : Nat} {vc vn mv : Value} {ah : Nat → Nat} {en : Nat} (h : W.heap[b]? = some (sbO vc vn ah en mv)) (i : Nat) (hi : i < 8) : W.cell? ⟨b, 2 + i, none⟩ = some (.int .u64 (ah i : Int)) := by
 unfold World.cell?
 rw [h]
 match i, hi with
 | 0, _ => rfl
 | 1, _ => rfl
 | 2, _ => rfl
 | 3, _ => rfl
 | 4, _ => rfl
 | 5, _ => rfl
 | 6, _ => rfl
 | 7, _ => rfl
theorem st_cells {W : World} {b P : Nat} {v0 v1 v2 v3 v4 : Value} (h : W.heap[b]? = some (stO P v0 v1 v2 v3 v4)) :
  b < W.heap.size ∧ W.cell? ⟨b, 0, none⟩ = some (.int .u64 (P : Int)) ∧ W.cell? ⟨b, 1, none⟩ = some v0 ∧ W.cell? ⟨b, 2, none⟩ = some v1 ∧ W.cell? ⟨b, 3, none⟩ = some v2 ∧ W.cell? ⟨b, 4, none⟩ = some v3 ∧ W.cell? ⟨b, 5, none⟩ = some v4 := by
 refine ⟨(Array.getElem?_eq_some_iff.1 h).1, ?_, ?_, ?_, ?_, ?_, ?_⟩ <;> (unfold World.cell?; rw [h]; rfl)
set_option maxHeartbeats 2000000 in
theorem whole_any {W : World} {b : Nat} {vc vn mv : Value} {ah : Nat → Nat} {en P : Nat} (h : W.heap[b]? = some (sbO vc vn ah en mv)) (he : en < 256) (hP : P < 256) (v0 v1 v2 v3 v4 : Value) :
  Calls Tryz.prog 30 #[.pointer (some ⟨b, 0, none⟩), .agg #[gv P, v0, v1, v2, v3, v4]] W fun e w' => e = .returned (.bool (inB8 en P)) ∧ Below W.heap.size W w' := by
 obtain ⟨hl, _, _, h10, _⟩ := sb_cells h
 have hC := fun W' => Mr.hid (within_any en P he hP W')
 have hB : Below W.heap.size W (W.alloc (stO P v0 v1 v2 v3 v4)) := (Below.refl _ _).alloc (Nat.le_refl _) _
 have k10 := (hB.cell (p := ⟨b, 10, none⟩) hl).trans h10
 have k0 := (st_cells (new_at W (stO P v0 v1 v2 v3 v4) _ rfl)).2.1
 unfold stO gv at *
 go_enter Tryz.func30, Tryz.ntmps30
 go_upto_region 1 with (fail)
 go_region_with ((go_at_call 47; refine (hC _).out.mono ?_; rintro e w' ⟨rfl, rfl⟩))
 all_goals go_wp2
 all_goals go_ret
 all_goals exact ⟨rfl, hB.drew⟩
set_option maxHeartbeats 2000000 in
theorem onward_any {W : World} {b : Nat} {P : Nat} (v0 v1 v2 v3 v4 : Value) :
  Calls Tryz.prog 32 #[.pointer (some ⟨b, 0, none⟩), .agg #[gv P, v0, v1, v2, v3, v4]] W fun e w' => e = .returned (.func (.func 49) #[] #[.pointer (some ⟨W.heap.size, 0, none⟩), .pointer (some ⟨W.heap.size + 1, 0, none⟩)]) ∧ w' = (W.alloc (.cells #[.pointer (some ⟨b, 0, none⟩)] 46 (0, 0))).alloc (stO P v0 v1 v2 v3 v4) := by
 unfold stO gv
 go_enter Tryz.func32, Tryz.ntmps32
 go_wp2
 go_ret
 exact ⟨rfl, rfl⟩
end Go.Proofs.YtnbibkohgppjnaaGreat.Ws
namespace Go.Proofs.YtnbibkohgppjnaaGreat.Md
open Go.RowKit Mr
theorem Own.kept2 {W W' : World} {S T : Nat → Prop} {e : TypeId} {size n : Nat} {v : Value} {xs : List Value} (h : Own W S e size v n xs) (hb : ∀ k, S k → k < W.heap.size → W'.heap[k]? = W.heap[k]?) (hT : ∀ k, S k → k < W.heap.size → T k) : Own W' T e size v n xs := by
 obtain ⟨h1, a, cap, hv, hc, hm, h2⟩ := h
 refine ⟨h1, a, cap, hv, hc, hm, h2.imp id ?_⟩
 rintro ⟨g, o, cur, ha, hS, hg, hs, hx⟩
 have hl := (Array.getElem?_eq_some_iff.1 hg).1
 exact ⟨g, o, cur, ha, hT g hS hl, (hb g hS hl).trans hg, hs, hx⟩
def Ob (W : World) (S : Nat → Prop) (g : Nat) (tb e : TypeId) (size n : Nat) (xs : List Value) : Prop :=
 ∃ v, S g ∧ W.heap[g]? = some (.cells #[v] tb (0, 0)) ∧ Own W (fun k => S k ∧ k ≠ g) e size v n xs
theorem Ob.kept {W W' : World} {S T : Nat → Prop} {g : Nat} {tb e : TypeId} {size n : Nat} {xs : List Value} (h : Ob W S g tb e size n xs) (hb : ∀ k, S k → k < W.heap.size → W'.heap[k]? = W.heap[k]?) (hT : ∀ k, S k → k < W.heap.size → T k) : Ob W' T g tb e size n xs := by
 obtain ⟨v, hS, hg, hO⟩ := h
 have hl := (Array.getElem?_eq_some_iff.1 hg).1
 exact ⟨v, hT g hS hl, (hb g hS hl).trans hg, hO.kept2 (fun k hk hl => hb k hk.1 hl) (fun k hk hl => ⟨hT k hk.1 hl, hk.2⟩)⟩
theorem Ob.below {W W' : World} {S : Nat → Prop} {g : Nat} {tb e : TypeId} {size n : Nat} {xs : List Value} (h : Ob W S g tb e size n xs) (hB : Below W.heap.size W W') : Ob W' (fun k => S k ∧ k < W.heap.size) g tb e size n xs :=
 h.kept (fun k _ hl => hB.block k hl) (fun k hk hl => ⟨hk, hl⟩)
theorem Ob.new {W1 : World} {B : Nat} {v : Value} {tb e : TypeId} {size n : Nat} {xs : List Value} (hO : Own W1 (fun k => B ≤ k) e size v n xs) (hB : B ≤ W1.heap.size) : Ob (W1.alloc (.cells #[v] tb (0, 0))) (fun k => B ≤ k) W1.heap.size tb e size n xs :=
 ⟨v, hB, heap_alloc_new W1 _, hO.kept2 (fun k _ hl => Below.heap_alloc W1 _ k hl) (fun k hk hl => ⟨hk, by omega⟩)⟩
set_option maxRecDepth 100000 in
set_option maxHeartbeats 1000000 in
theorem newCell_any {w : World} {S : Nat → Prop} {u : Value} {l : List Int} (hu : Sl w S 1 u l.length (ints l)) (hsm : l.length * 8 ≤ 225100000000000) :
  Calls Tryz.prog 89 #[u] w fun e w' => ∃ g, e = .returned (.pointer (some ⟨g, 0, none⟩)) ∧ Ob w' (fun k => w.heap.size ≤ k) g 171 3 1 l.length (ints l) ∧ Below w.heap.size w w' := by
 obtain ⟨a, c, rfl, hc⟩ := hu.form
 have C1 := cloneI_any hu hsm
 clear hu
 replace C1 := Mr.hid C1
 go_enter Tryz.func89, Tryz.ntmps89
 go_wp2_with (first | (go_at_call 113; refine C1.out.mono ?_; rintro e w1 ⟨v1, rfl, hO, hB⟩; obtain ⟨a1, c1, rfl, _, _⟩ := hO.form; replace hO := Mr.hid hO))
 go_ret
 exact ⟨_, rfl, Ob.new hO.out hB.size, hB.alloc hB.size _⟩
set_option maxRecDepth 100000 in
set_option maxHeartbeats 1000000 in
theorem newStack_any {w : World} {S : Nat → Prop} {u : Value} {l : List Int} (hu : Sl w S 1 u l.length (ints l)) (hsm : l.length * 8 ≤ 225100000000000) :
  Calls Tryz.prog 90 #[u] w fun e w' => ∃ g, e = .returned (.pointer (some ⟨g, 0, none⟩)) ∧ Ob w' (fun k => w.heap.size ≤ k) g 172 3 1 l.length (ints l.reverse) ∧ Below w.heap.size w w' := by
 obtain ⟨a, c, rfl, hc⟩ := hu.form
 have C1 := turned_any hu hsm
 clear hu
 replace C1 := Mr.hid C1
 go_enter Tryz.func90, Tryz.ntmps90
 go_wp2_with (first | (go_at_call 114; refine C1.out.mono ?_; rintro e w1 ⟨v1, rfl, hO, hB⟩; obtain ⟨a1, c1, rfl, _, _⟩ := hO.form; replace hO := Mr.hid hO))
 go_ret
 exact ⟨_, rfl, Ob.new hO.out hB.size, hB.alloc hB.size _⟩
set_option maxRecDepth 100000 in
set_option maxHeartbeats 1000000 in
theorem newQueue_any {w : World} {S : Nat → Prop} {u : Value} {l : List Int} (hu : Sl w S 1 u l.length (ints l)) (hsm : l.length * 8 ≤ 225100000000000) :
  Calls Tryz.prog 91 #[u] w fun e w' => ∃ g, e = .returned (.pointer (some ⟨g, 0, none⟩)) ∧ Ob w' (fun k => w.heap.size ≤ k) g 173 3 1 l.length (ints l) ∧ Below w.heap.size w w' := by
 obtain ⟨a, c, rfl, hc⟩ := hu.form
 have C1 := cloneI_any hu hsm
 clear hu
 replace C1 := Mr.hid C1
 go_enter Tryz.func91, Tryz.ntmps91
 go_wp2_with (first | (go_at_call 113; refine C1.out.mono ?_; rintro e w1 ⟨v1, rfl, hO, hB⟩; obtain ⟨a1, c1, rfl, _, _⟩ := hO.form; replace hO := Mr.hid hO))
 go_ret
 exact ⟨_, rfl, Ob.new hO.out hB.size, hB.alloc hB.size _⟩
set_option maxRecDepth 100000 in
set_option maxHeartbeats 1000000 in
theorem newSet_any {w : World} {S : Nat → Prop} {u : Value} {l : List Int} (hu : Sl w S 1 u l.length (ints l)) (hsm : l.length * 8 ≤ 225100000000000) :
  Calls Tryz.prog 92 #[u] w fun e w' => ∃ g, e = .returned (.pointer (some ⟨g, 0, none⟩)) ∧ Ob w' (fun k => w.heap.size ≤ k) g 175 3 1 l.length (ints l) ∧ Below w.heap.size w w' := by
 obtain ⟨a, c, rfl, hc⟩ := hu.form
 have C1 := cloneI_any hu hsm
 clear hu
 replace C1 := Mr.hid C1
 go_enter Tryz.func92, Tryz.ntmps92
 go_wp2_with (first | (go_at_call 113; refine C1.out.mono ?_; rintro e w1 ⟨v1, rfl, hO, hB⟩; obtain ⟨a1, c1, rfl, _, _⟩ := hO.form; replace hO := Mr.hid hO))
 go_ret
 exact ⟨_, rfl, Ob.new hO.out hB.size, hB.alloc hB.size _⟩
set_option maxRecDepth 100000 in
set_option maxHeartbeats 1000000 in
theorem newTable_any {w : World} {S : Nat → Prop} {u : Value} {l : List (Int × Int)} (hu : Sl w S 2 u l.length (prs l)) (hsm : l.length * 16 ≤ 225100000000000) :
  Calls Tryz.prog 93 #[u] w fun e w' => ∃ g, e = .returned (.pointer (some ⟨g, 0, none⟩)) ∧ Ob w' (fun k => w.heap.size ≤ k) g 178 92 2 l.length (prs l) ∧ Below w.heap.size w w' := by
 obtain ⟨a, c, rfl, hc⟩ := hu.form
 have C1 := cloneP_any hu hsm
 clear hu
 replace C1 := Mr.hid C1
 go_enter Tryz.func93, Tryz.ntmps93
 go_wp2_with (first | (go_at_call 115; refine C1.out.mono ?_; rintro e w1 ⟨v1, rfl, hO, hB⟩; obtain ⟨a1, c1, rfl, _, _⟩ := hO.form; replace hO := Mr.hid hO))
 go_ret
 exact ⟨_, rfl, Ob.new hO.out hB.size, hB.alloc hB.size _⟩
structure Wd (W : World) (B : Nat) (lab : Nat → Nat) (g0 g1 g2 g3 g4 : Nat) (x : Ct) : Prop where
 low : ∀ k, lab k < 5 → B ≤ k
 cell : Ob W (fun k => lab k = 0) g0 171 3 1 x.cell.length (ints x.cell)
 stack : Ob W (fun k => lab k = 1) g1 172 3 1 x.stack.length (ints x.stack.reverse)
 queue : Ob W (fun k => lab k = 2) g2 173 3 1 x.queue.length (ints x.queue)
 set : Ob W (fun k => lab k = 3) g3 175 3 1 x.set.length (ints x.set)
 table : Ob W (fun k => lab k = 4) g4 178 92 2 x.table.length (prs x.table)
def labs (s0 s1 s2 s3 s4 : Nat) (k : Nat) : Nat := if k < s0 then 5 else if k < s1 then 0 else if k < s2 then 1 else if k < s3 then 2 else if k < s4 then 3 else 4
def wdV (g0 g1 g2 g3 g4 : Nat) : Value := .agg #[.iface 139 (.pointer (some ⟨g0, 0, none⟩)), .iface 141 (.pointer (some ⟨g1, 0, none⟩)), .iface 143 (.pointer (some ⟨g2, 0, none⟩)), .iface 145 (.pointer (some ⟨g3, 0, none⟩)), .iface 147 (.pointer (some ⟨g4, 0, none⟩))]
def Tq (W w : World) (bU bR : Nat) (o r : Obj) : Prop := Below W.heap.size W w ∧ w.heap[bU]? = some o ∧ w.heap[bR]? = some r ∧ bR < w.heap.size ∧ W.heap.size ≤ bU ∧ W.heap.size ≤ bR ∧ bU < bR
theorem Tq.new (W : World) (o r : Obj) : Tq W ((W.alloc o).alloc r) W.heap.size (W.heap.size + 1) o r :=
 ⟨((Below.refl _ _).alloc (Nat.le_refl _) _).alloc (by simp) _, old_at (new_at W _ _ rfl) _, new_at _ _ _ (by simp), by simp, Nat.le_refl _, by omega, by omega⟩
theorem Tq.below {W w w' : World} {bU bR : Nat} {o r : Obj} (h : Tq W w bU bR o r) (hB : Below w.heap.size w w') : Tq W w' bU bR o r :=
 ⟨h.1.trans (hB.mono h.1.size), (hB.block _ (by have := h.2.2.2.1; have := h.2.2.2.2.2.2; omega)).trans h.2.1, (hB.block _ h.2.2.2.1).trans h.2.2.1, Nat.lt_of_lt_of_le h.2.2.2.1 hB.size, h.2.2.2.2⟩
theorem Tq.drew {W w : World} {bU bR : Nat} {o r : Obj} (h : Tq W w bU bR o r) : Tq W w.drew bU bR o r := ⟨h.1.drew, h.2⟩
theorem ifs_cells {W : World} {b : Nat} {v0 v1 v2 v3 v4 : Value} {t : TypeId} (h : W.heap[b]? = some (.cells #[v0, v1, v2, v3, v4] t (0, 0))) : W.cell? ⟨b, 0, none⟩ = some v0 ∧ W.cell? ⟨b, 1, none⟩ = some v1 ∧ W.cell? ⟨b, 2, none⟩ = some v2 ∧ W.cell? ⟨b, 3, none⟩ = some v3 ∧ W.cell? ⟨b, 4, none⟩ = some v4 ∧ b < W.heap.size :=
 ⟨by simp [World.cell?, h], by simp [World.cell?, h], by simp [World.cell?, h], by simp [World.cell?, h], by simp [World.cell?, h], (Array.getElem?_eq_some_iff.1 h).1⟩
theorem ifs_thaw {W : World} {b : Nat} {v0 v1 v2 v3 v4 : Value} {t : TypeId} (h : W.heap[b]? = some (.cells #[v0, v1, v2, v3, v4] t (0, 0))) : W.frozen? ⟨b, 0, none⟩ = false ∧ W.frozen? ⟨b, 1, none⟩ = false ∧ W.frozen? ⟨b, 2, none⟩ = false ∧ W.frozen? ⟨b, 3, none⟩ = false ∧ W.frozen? ⟨b, 4, none⟩ = false :=
 ⟨by simp [World.frozen?, h], by simp [World.frozen?, h], by simp [World.frozen?, h], by simp [World.frozen?, h], by simp [World.frozen?, h]⟩
theorem set5_five {w : World} {b : Nat} {t : TypeId} {u0 u1 u2 u3 u4 : Value} (v0 v1 v2 v3 v4 : Value) (h : w.heap[b]? = some (.cells #[u0, u1, u2, u3, u4] t (0, 0))) : (set5 w b v0 v1 v2 v3 v4).heap[b]? = some (.cells #[v0, v1, v2, v3, v4] t (0, 0)) := by
 unfold set5
 exact setBlk (setBlk (setBlk (setBlk (setBlk h 0 v0) 1 v1) 2 v2) 3 v3) 4 v4
theorem five_far {w : World} {bU bR : Nat} {s0 s1 s2 s3 s4 : Value} {t : TypeId} (h : w.heap[bU]? = some (.cells #[s0, s1, s2, s3, s4] t (0, 0))) (hne : bU < bR) (v0 v1 v2 v3 v4 : Value) :
  (((((w.setCell ⟨bR, 0, none⟩ v0).setCell ⟨bR, 1, none⟩ v1).setCell ⟨bR, 2, none⟩ v2).setCell ⟨bR, 3, none⟩ v3).setCell ⟨bR, 4, none⟩ v4).cell? ⟨bU, 0, none⟩ = some s0 ∧ (((((w.setCell ⟨bR, 0, none⟩ v0).setCell ⟨bR, 1, none⟩ v1).setCell ⟨bR, 2, none⟩ v2).setCell ⟨bR, 3, none⟩ v3).setCell ⟨bR, 4, none⟩ v4).cell? ⟨bU, 1, none⟩ = some s1 ∧ (((((w.setCell ⟨bR, 0, none⟩ v0).setCell ⟨bR, 1, none⟩ v1).setCell ⟨bR, 2, none⟩ v2).setCell ⟨bR, 3, none⟩ v3).setCell ⟨bR, 4, none⟩ v4).cell? ⟨bU, 2, none⟩ = some s2 ∧ (((((w.setCell ⟨bR, 0, none⟩ v0).setCell ⟨bR, 1, none⟩ v1).setCell ⟨bR, 2, none⟩ v2).setCell ⟨bR, 3, none⟩ v3).setCell ⟨bR, 4, none⟩ v4).cell? ⟨bU, 3, none⟩ = some s3 ∧ (((((w.setCell ⟨bR, 0, none⟩ v0).setCell ⟨bR, 1, none⟩ v1).setCell ⟨bR, 2, none⟩ v2).setCell ⟨bR, 3, none⟩ v3).setCell ⟨bR, 4, none⟩ v4).cell? ⟨bU, 4, none⟩ = some s4 := by
 obtain ⟨k0, k1, k2, k3, k4, _⟩ := ifs_cells ((set5_far w bR v0 v1 v2 v3 v4 bU (by omega)).trans h)
 exact ⟨k0, k1, k2, k3, k4⟩
theorem wd_made {w0 w1 w2 w3 w4 w5 w6 : World} {B g0 g1 g2 g3 g4 : Nat} {x : Ct} (o0 : Ob w1 (fun k => w0.heap.size ≤ k) g0 171 3 1 x.cell.length (ints x.cell)) (o1 : Ob w2 (fun k => w1.heap.size ≤ k) g1 172 3 1 x.stack.length (ints x.stack.reverse)) (o2 : Ob w3 (fun k => w2.heap.size ≤ k) g2 173 3 1 x.queue.length (ints x.queue)) (o3 : Ob w4 (fun k => w3.heap.size ≤ k) g3 175 3 1 x.set.length (ints x.set)) (o4 : Ob w5 (fun k => w4.heap.size ≤ k) g4 178 92 2 x.table.length (prs x.table)) (h1 : Below w0.heap.size w0 w1) (h2 : Below w1.heap.size w1 w2) (h3 : Below w2.heap.size w2 w3) (h4 : Below w3.heap.size w3 w4) (h5 : Below w4.heap.size w4 w5) (hw : ∀ k, w0.heap.size ≤ k → k < w5.heap.size → w6.heap[k]? = w5.heap[k]?) (hB : B ≤ w0.heap.size) : Wd w6 B (labs w0.heap.size w1.heap.size w2.heap.size w3.heap.size w4.heap.size) g0 g1 g2 g3 g4 x := by
 have s1 := h1.size
 have s2 := h2.size
 have s3 := h3.size
 have s4 := h4.size
 have s5 := h5.size
 refine ⟨fun k hk => ?_, ?_, ?_, ?_, ?_, ?_⟩
 ·unfold labs at hk
  split at hk
  ·omega
  ·omega
 ·refine o0.kept (fun k hk hl => ?_) (fun k hk hl => ?_)
  ·exact (hw k (by omega) (by omega)).trans ((h5.block k (by omega)).trans ((h4.block k (by omega)).trans ((h3.block k (by omega)).trans (h2.block k (by omega)))))
  ·unfold labs
   rw [if_neg (by omega)]
   rw [if_pos (by omega)]
 ·refine o1.kept (fun k hk hl => ?_) (fun k hk hl => ?_)
  ·exact (hw k (by omega) (by omega)).trans ((h5.block k (by omega)).trans ((h4.block k (by omega)).trans (h3.block k (by omega))))
  ·unfold labs
   rw [if_neg (by omega)]
   rw [if_neg (by omega)]
   rw [if_pos (by omega)]
 ·refine o2.kept (fun k hk hl => ?_) (fun k hk hl => ?_)
  ·exact (hw k (by omega) (by omega)).trans ((h5.block k (by omega)).trans (h4.block k (by omega)))
  ·unfold labs
   rw [if_neg (by omega)]
   rw [if_neg (by omega)]
   rw [if_neg (by omega)]
   rw [if_pos (by omega)]
 ·refine o3.kept (fun k hk hl => ?_) (fun k hk hl => ?_)
  ·exact (hw k (by omega) (by omega)).trans (h5.block k (by omega))
  ·unfold labs
   rw [if_neg (by omega)]
   rw [if_neg (by omega)]
   rw [if_neg (by omega)]
   rw [if_neg (by omega)]
   rw [if_pos (by omega)]
 ·refine o4.kept (fun k hk hl => ?_) (fun k hk hl => ?_)
  ·exact (hw k (by omega) (by omega))
  ·unfold labs
   rw [if_neg (by omega)]
   rw [if_neg (by omega)]
   rw [if_neg (by omega)]
   rw [if_neg (by omega)]
   rw [if_neg (by omega)]
end Go.Proofs.YtnbibkohgppjnaaGreat.Md
namespace Go.Proofs.YtnbibkohgppjnaaGreat.Md
open Go.RowKit Mr
theorem ta_0_0 (a : Addr) (w : World) : (Instr.typeAssert (.iface 139 (.pointer (some a))) 123 139 true).run Tryz.prog w = .ok (.tuple #[.pointer (some a), .bool true]) w := by kernel_rfl
theorem ta_1_0 (a : Addr) (w : World) : (Instr.typeAssert (.iface 141 (.pointer (some a))) 123 139 true).run Tryz.prog w = .ok (.tuple #[.pointer none, .bool false]) w := by kernel_rfl
theorem ta_1_1 (a : Addr) (w : World) : (Instr.typeAssert (.iface 141 (.pointer (some a))) 123 141 true).run Tryz.prog w = .ok (.tuple #[.pointer (some a), .bool true]) w := by kernel_rfl
theorem ta_2_0 (a : Addr) (w : World) : (Instr.typeAssert (.iface 143 (.pointer (some a))) 123 139 true).run Tryz.prog w = .ok (.tuple #[.pointer none, .bool false]) w := by kernel_rfl
theorem ta_2_1 (a : Addr) (w : World) : (Instr.typeAssert (.iface 143 (.pointer (some a))) 123 141 true).run Tryz.prog w = .ok (.tuple #[.pointer none, .bool false]) w := by kernel_rfl
theorem ta_2_2 (a : Addr) (w : World) : (Instr.typeAssert (.iface 143 (.pointer (some a))) 123 143 true).run Tryz.prog w = .ok (.tuple #[.pointer (some a), .bool true]) w := by kernel_rfl
theorem ta_3_0 (a : Addr) (w : World) : (Instr.typeAssert (.iface 145 (.pointer (some a))) 123 139 true).run Tryz.prog w = .ok (.tuple #[.pointer none, .bool false]) w := by kernel_rfl
theorem ta_3_1 (a : Addr) (w : World) : (Instr.typeAssert (.iface 145 (.pointer (some a))) 123 141 true).run Tryz.prog w = .ok (.tuple #[.pointer none, .bool false]) w := by kernel_rfl
theorem ta_3_2 (a : Addr) (w : World) : (Instr.typeAssert (.iface 145 (.pointer (some a))) 123 143 true).run Tryz.prog w = .ok (.tuple #[.pointer none, .bool false]) w := by kernel_rfl
theorem ta_3_3 (a : Addr) (w : World) : (Instr.typeAssert (.iface 145 (.pointer (some a))) 123 145 true).run Tryz.prog w = .ok (.tuple #[.pointer (some a), .bool true]) w := by kernel_rfl
theorem ta_4_0 (a : Addr) (w : World) : (Instr.typeAssert (.iface 147 (.pointer (some a))) 123 139 true).run Tryz.prog w = .ok (.tuple #[.pointer none, .bool false]) w := by kernel_rfl
theorem ta_4_1 (a : Addr) (w : World) : (Instr.typeAssert (.iface 147 (.pointer (some a))) 123 141 true).run Tryz.prog w = .ok (.tuple #[.pointer none, .bool false]) w := by kernel_rfl
theorem ta_4_2 (a : Addr) (w : World) : (Instr.typeAssert (.iface 147 (.pointer (some a))) 123 143 true).run Tryz.prog w = .ok (.tuple #[.pointer none, .bool false]) w := by kernel_rfl
theorem ta_4_3 (a : Addr) (w : World) : (Instr.typeAssert (.iface 147 (.pointer (some a))) 123 145 true).run Tryz.prog w = .ok (.tuple #[.pointer none, .bool false]) w := by kernel_rfl
theorem ta_4_4 (a : Addr) (w : World) : (Instr.typeAssert (.iface 147 (.pointer (some a))) 123 147 true).run Tryz.prog w = .ok (.tuple #[.pointer (some a), .bool true]) w := by kernel_rfl
set_option maxRecDepth 100000 in
set_option maxHeartbeats 2000000 in
theorem put_cell {W : World} {S : Nat → Prop} {g b : Nat} {l : List Int} (ho : Ob W S g 171 3 1 l.length (ints l)) {s0 s1 s2 s3 s4 : Value} (hb : W.heap[b]? = some (ctO s0 s1 s2 s3 s4)) (hbS : ¬ S b) (hsm : l.length * 8 ≤ 225100000000000) :
  Calls Tryz.prog 96 #[.iface 139 (.pointer (some ⟨g, 0, none⟩)), .pointer (some ⟨b, 0, none⟩)] W fun e w' => e = .returned (.tuple #[]) ∧ ∃ v, Own w' (fun k => S k ∨ (W.heap.size ≤ k ∧ k < w'.heap.size)) 3 1 v l.length (ints l) ∧ w'.heap[b]? = some (ctO v s1 s2 s3 s4) ∧ Fr W w' (fun k => k = b) := by
 obtain ⟨v, hS, hg, hO⟩ := ho
 have cg : W.cell? ⟨g, 0, none⟩ = some v := by simp [World.cell?, hg]
 have hgl := (Array.getElem?_eq_some_iff.1 hg).1
 obtain ⟨y0, y1, y2, y3, y4, y5⟩ := ctO_cells hb
 obtain ⟨f0, f1, f2, f3, f4⟩ := ctO_thaw hb
 have ta0 := ta_0_0 ⟨g, 0, none⟩
 have hE : Hid (Own (W.setCell ⟨b, 0, none⟩ v) (fun k => S k ∨ (W.heap.size ≤ k ∧ k < (W.setCell ⟨b, 0, none⟩ v).heap.size)) 3 1 v l.length (ints l) ∧ (W.setCell ⟨b, 0, none⟩ v).heap[b]? = some (ctO v s1 s2 s3 s4) ∧ Fr W (W.setCell ⟨b, 0, none⟩ v) (fun k => k = b)) :=
  ⟨hO.kept2 (fun k hk _ => Below.heap_setCell W _ v k (fun e => hbS ((show k = b from e) ▸ hk.1))) (fun k hk _ => .inl hk.1), setBlk hb 0 v, (Fr.refl W _).setCell _ v (.inl rfl)⟩
 obtain ⟨av, cv, rfl, _, _⟩ := hO.form
 clear hb hg hO hbS hS
 go_enter Tryz.func96, Tryz.ntmps96
 go_wp2
 go_end0
 exact ⟨rfl, _, hE.out⟩
set_option maxRecDepth 100000 in
set_option maxHeartbeats 2000000 in
theorem put_stack {W : World} {S : Nat → Prop} {g b : Nat} {l : List Int} (ho : Ob W S g 172 3 1 l.length (ints l.reverse)) {s0 s1 s2 s3 s4 : Value} (hb : W.heap[b]? = some (ctO s0 s1 s2 s3 s4)) (hbS : ¬ S b) (hsm : l.length * 8 ≤ 225100000000000) :
  Calls Tryz.prog 96 #[.iface 141 (.pointer (some ⟨g, 0, none⟩)), .pointer (some ⟨b, 0, none⟩)] W fun e w' => e = .returned (.tuple #[]) ∧ ∃ v, Own w' (fun k => S k ∨ (W.heap.size ≤ k ∧ k < w'.heap.size)) 3 1 v l.length (ints l) ∧ w'.heap[b]? = some (ctO s0 v s2 s3 s4) ∧ Fr W w' (fun k => k = b) := by
 obtain ⟨v, hS, hg, hO⟩ := ho
 have cg : W.cell? ⟨g, 0, none⟩ = some v := by simp [World.cell?, hg]
 have hgl := (Array.getElem?_eq_some_iff.1 hg).1
 obtain ⟨y0, y1, y2, y3, y4, y5⟩ := ctO_cells hb
 obtain ⟨f0, f1, f2, f3, f4⟩ := ctO_thaw hb
 have ta0 := ta_1_0 ⟨g, 0, none⟩
 have ta1 := ta_1_1 ⟨g, 0, none⟩
 have hO' := hO.sl
 rw [show l.length = l.reverse.length from (List.length_reverse ..).symm] at hO'
 have C := turned_any hO' (by simpa using hsm)
 clear hO'
 simp only [List.length_reverse] at C
 obtain ⟨av, cv, rfl, _, _⟩ := hO.form
 have HB := hb
 clear hb hg hO hS
 replace C := Mr.hid C
 replace HB := Mr.hid HB
 go_enter Tryz.func96, Tryz.ntmps96
 go_wp2_with (first | (go_at_call 114; refine C.out.mono ?_; rintro e w1 ⟨v1, rfl, hO1, hB1⟩; obtain ⟨a1, c1, rfl, _, _⟩ := hO1.form; have HB1 := Mr.hid ((hB1.block b y5).trans HB.out); clear y0 y1 y2 y3 y4 f0 f1 f2 f3 f4; obtain ⟨y0, y1, y2, y3, y4, y6⟩ := ctO_cells HB1.out; obtain ⟨f0, f1, f2, f3, f4⟩ := ctO_thaw HB1.out; replace hO1 := Mr.hid hO1; replace hB1 := Mr.hid hB1))
 go_end0
 refine ⟨rfl, _, ?_, setBlk HB1.out 1 _, (Fr.of_below hB1.out).setCell _ _ (.inl rfl)⟩
 have h1 := hO1.out
 rw [List.reverse_reverse] at h1
 exact h1.kept2 (fun k hk _ => Below.heap_setCell _ _ _ k (fun e => by simp at e; omega)) (fun k hk hl => .inr ⟨hk, by simpa using hl⟩)
set_option maxRecDepth 100000 in
set_option maxHeartbeats 2000000 in
theorem put_queue {W : World} {S : Nat → Prop} {g b : Nat} {l : List Int} (ho : Ob W S g 173 3 1 l.length (ints l)) {s0 s1 s2 s3 s4 : Value} (hb : W.heap[b]? = some (ctO s0 s1 s2 s3 s4)) (hbS : ¬ S b) (hsm : l.length * 8 ≤ 225100000000000) :
  Calls Tryz.prog 96 #[.iface 143 (.pointer (some ⟨g, 0, none⟩)), .pointer (some ⟨b, 0, none⟩)] W fun e w' => e = .returned (.tuple #[]) ∧ ∃ v, Own w' (fun k => S k ∨ (W.heap.size ≤ k ∧ k < w'.heap.size)) 3 1 v l.length (ints l) ∧ w'.heap[b]? = some (ctO s0 s1 v s3 s4) ∧ Fr W w' (fun k => k = b) := by
 obtain ⟨v, hS, hg, hO⟩ := ho
 have cg : W.cell? ⟨g, 0, none⟩ = some v := by simp [World.cell?, hg]
 have hgl := (Array.getElem?_eq_some_iff.1 hg).1
 obtain ⟨y0, y1, y2, y3, y4, y5⟩ := ctO_cells hb
 obtain ⟨f0, f1, f2, f3, f4⟩ := ctO_thaw hb
 have ta0 := ta_2_0 ⟨g, 0, none⟩
 have ta1 := ta_2_1 ⟨g, 0, none⟩
 have ta2 := ta_2_2 ⟨g, 0, none⟩
 have hE : Hid (Own (W.setCell ⟨b, 2, none⟩ v) (fun k => S k ∨ (W.heap.size ≤ k ∧ k < (W.setCell ⟨b, 2, none⟩ v).heap.size)) 3 1 v l.length (ints l) ∧ (W.setCell ⟨b, 2, none⟩ v).heap[b]? = some (ctO s0 s1 v s3 s4) ∧ Fr W (W.setCell ⟨b, 2, none⟩ v) (fun k => k = b)) :=
  ⟨hO.kept2 (fun k hk _ => Below.heap_setCell W _ v k (fun e => hbS ((show k = b from e) ▸ hk.1))) (fun k hk _ => .inl hk.1), setBlk hb 2 v, (Fr.refl W _).setCell _ v (.inl rfl)⟩
 obtain ⟨av, cv, rfl, _, _⟩ := hO.form
 clear hb hg hO hbS hS
 go_enter Tryz.func96, Tryz.ntmps96
 go_wp2
 go_end0
 exact ⟨rfl, _, hE.out⟩
set_option maxRecDepth 100000 in
set_option maxHeartbeats 2000000 in
theorem put_set {W : World} {S : Nat → Prop} {g b : Nat} {l : List Int} (ho : Ob W S g 175 3 1 l.length (ints l)) {s0 s1 s2 s3 s4 : Value} (hb : W.heap[b]? = some (ctO s0 s1 s2 s3 s4)) (hbS : ¬ S b) (hsm : l.length * 8 ≤ 225100000000000) :
  Calls Tryz.prog 96 #[.iface 145 (.pointer (some ⟨g, 0, none⟩)), .pointer (some ⟨b, 0, none⟩)] W fun e w' => e = .returned (.tuple #[]) ∧ ∃ v, Own w' (fun k => S k ∨ (W.heap.size ≤ k ∧ k < w'.heap.size)) 3 1 v l.length (ints l) ∧ w'.heap[b]? = some (ctO s0 s1 s2 v s4) ∧ Fr W w' (fun k => k = b) := by
 obtain ⟨v, hS, hg, hO⟩ := ho
 have cg : W.cell? ⟨g, 0, none⟩ = some v := by simp [World.cell?, hg]
 have hgl := (Array.getElem?_eq_some_iff.1 hg).1
 obtain ⟨y0, y1, y2, y3, y4, y5⟩ := ctO_cells hb
 obtain ⟨f0, f1, f2, f3, f4⟩ := ctO_thaw hb
 have ta0 := ta_3_0 ⟨g, 0, none⟩
 have ta1 := ta_3_1 ⟨g, 0, none⟩
 have ta2 := ta_3_2 ⟨g, 0, none⟩
 have ta3 := ta_3_3 ⟨g, 0, none⟩
 have hE : Hid (Own (W.setCell ⟨b, 3, none⟩ v) (fun k => S k ∨ (W.heap.size ≤ k ∧ k < (W.setCell ⟨b, 3, none⟩ v).heap.size)) 3 1 v l.length (ints l) ∧ (W.setCell ⟨b, 3, none⟩ v).heap[b]? = some (ctO s0 s1 s2 v s4) ∧ Fr W (W.setCell ⟨b, 3, none⟩ v) (fun k => k = b)) :=
  ⟨hO.kept2 (fun k hk _ => Below.heap_setCell W _ v k (fun e => hbS ((show k = b from e) ▸ hk.1))) (fun k hk _ => .inl hk.1), setBlk hb 3 v, (Fr.refl W _).setCell _ v (.inl rfl)⟩
 obtain ⟨av, cv, rfl, _, _⟩ := hO.form
 clear hb hg hO hbS hS
 go_enter Tryz.func96, Tryz.ntmps96
 go_wp2
 go_end0
 exact ⟨rfl, _, hE.out⟩
set_option maxRecDepth 100000 in
set_option maxHeartbeats 2000000 in
theorem put_table {W : World} {S : Nat → Prop} {g b : Nat} {l : List (Int × Int)} (ho : Ob W S g 178 92 2 l.length (prs l)) {s0 s1 s2 s3 s4 : Value} (hb : W.heap[b]? = some (ctO s0 s1 s2 s3 s4)) (hbS : ¬ S b) (hsm : l.length * 16 ≤ 225100000000000) :
  Calls Tryz.prog 96 #[.iface 147 (.pointer (some ⟨g, 0, none⟩)), .pointer (some ⟨b, 0, none⟩)] W fun e w' => e = .returned (.tuple #[]) ∧ ∃ v, Own w' (fun k => S k ∨ (W.heap.size ≤ k ∧ k < w'.heap.size)) 92 2 v l.length (prs l) ∧ w'.heap[b]? = some (ctO s0 s1 s2 s3 v) ∧ Fr W w' (fun k => k = b) := by
 obtain ⟨v, hS, hg, hO⟩ := ho
 have cg : W.cell? ⟨g, 0, none⟩ = some v := by simp [World.cell?, hg]
 have hgl := (Array.getElem?_eq_some_iff.1 hg).1
 obtain ⟨y0, y1, y2, y3, y4, y5⟩ := ctO_cells hb
 obtain ⟨f0, f1, f2, f3, f4⟩ := ctO_thaw hb
 have ta0 := ta_4_0 ⟨g, 0, none⟩
 have ta1 := ta_4_1 ⟨g, 0, none⟩
 have ta2 := ta_4_2 ⟨g, 0, none⟩
 have ta3 := ta_4_3 ⟨g, 0, none⟩
 have ta4 := ta_4_4 ⟨g, 0, none⟩
 have hE : Hid (Own (W.setCell ⟨b, 4, none⟩ v) (fun k => S k ∨ (W.heap.size ≤ k ∧ k < (W.setCell ⟨b, 4, none⟩ v).heap.size)) 92 2 v l.length (prs l) ∧ (W.setCell ⟨b, 4, none⟩ v).heap[b]? = some (ctO s0 s1 s2 s3 v) ∧ Fr W (W.setCell ⟨b, 4, none⟩ v) (fun k => k = b)) :=
  ⟨hO.kept2 (fun k hk _ => Below.heap_setCell W _ v k (fun e => hbS ((show k = b from e) ▸ hk.1))) (fun k hk _ => .inl hk.1), setBlk hb 4 v, (Fr.refl W _).setCell _ v (.inl rfl)⟩
 obtain ⟨av, cv, rfl, _, _⟩ := hO.form
 clear hb hg hO hbS hS
 go_enter Tryz.func96, Tryz.ntmps96
 go_wp2
 go_end0
 exact ⟨rfl, _, hE.out⟩
structure CtOwn (W : World) (B : Nat) (lab : Nat → Nat) (v0 v1 v2 v3 v4 : Value) (x : Ct) : Prop where
 low : ∀ k, lab k < 5 → B ≤ k
 cell : Own W (fun k => lab k = 0) 3 1 v0 x.cell.length (ints x.cell)
 stack : Own W (fun k => lab k = 1) 3 1 v1 x.stack.length (ints x.stack)
 queue : Own W (fun k => lab k = 2) 3 1 v2 x.queue.length (ints x.queue)
 set : Own W (fun k => lab k = 3) 3 1 v3 x.set.length (ints x.set)
 table : Own W (fun k => lab k = 4) 92 2 v4 x.table.length (prs x.table)
theorem CtOwn.at {W : World} {B : Nat} {lab : Nat → Nat} {v0 v1 v2 v3 v4 : Value} {x : Ct} (h : CtOwn W B lab v0 v1 v2 v3 v4 x) : CtAt W (fun k => B ≤ k) v0 v1 v2 v3 v4 x :=
 ⟨h.cell.sl.mono (fun k e => h.low k (by omega)), h.stack.sl.mono (fun k e => h.low k (by omega)), h.queue.sl.mono (fun k e => h.low k (by omega)), h.set.sl.mono (fun k e => h.low k (by omega)), h.table.sl.mono (fun k e => h.low k (by omega))⟩
def labc (n : Nat) (lab : Nat → Nat) (s0 s1 s2 s3 s4 : Nat) (k : Nat) : Nat := if k < n then lab k else labs s0 s1 s2 s3 s4 k
theorem labc_old {n : Nat} {lab : Nat → Nat} {s0 s1 s2 s3 s4 k : Nat} (h : k < n) : labc n lab s0 s1 s2 s3 s4 k = lab k := if_pos h
theorem labc_new {n : Nat} {lab : Nat → Nat} {s0 s1 s2 s3 s4 k : Nat} (h : n ≤ k) : labc n lab s0 s1 s2 s3 s4 k = labs s0 s1 s2 s3 s4 k := if_neg (by omega)
end Go.Proofs.YtnbibkohgppjnaaGreat.Md
namespace Go.Proofs.YtnbibkohgppjnaaGreat.Md
open Go.RowKit Mr
theorem ct_made {w0 w1 w2 w3 w4 w5 w6 : World} {B n bS bR : Nat} {lab : Nat → Nat} {v0 v1 v2 v3 v4 : Value} {x : Ct} (o0 : Own w1 (fun k => (lab k = 0 ∧ k < n) ∨ (w0.heap.size ≤ k ∧ k < w1.heap.size)) 3 1 v0 x.cell.length (ints x.cell)) (o1 : Own w2 (fun k => (lab k = 1 ∧ k < n) ∨ (w1.heap.size ≤ k ∧ k < w2.heap.size)) 3 1 v1 x.stack.length (ints x.stack)) (o2 : Own w3 (fun k => (lab k = 2 ∧ k < n) ∨ (w2.heap.size ≤ k ∧ k < w3.heap.size)) 3 1 v2 x.queue.length (ints x.queue)) (o3 : Own w4 (fun k => (lab k = 3 ∧ k < n) ∨ (w3.heap.size ≤ k ∧ k < w4.heap.size)) 3 1 v3 x.set.length (ints x.set)) (o4 : Own w5 (fun k => (lab k = 4 ∧ k < n) ∨ (w4.heap.size ≤ k ∧ k < w5.heap.size)) 92 2 v4 x.table.length (prs x.table)) (f1 : Fr w0 w1 (fun k => k = bS)) (f2 : Fr w1 w2 (fun k => k = bS)) (f3 : Fr w2 w3 (fun k => k = bS)) (f4 : Fr w3 w4 (fun k => k = bS)) (f5 : Fr w4 w5 (fun k => k = bS)) (hw : ∀ k, k ≠ bR → w6.heap[k]? = w5.heap[k]?) (low : ∀ k, lab k < 5 → B ≤ k) (hB : B ≤ n) (h1 : n ≤ bS) (h2 : bS < w0.heap.size) (h3 : n ≤ bR) (h4 : bR < w0.heap.size) : CtOwn w6 B (labc n lab w0.heap.size w1.heap.size w2.heap.size w3.heap.size w4.heap.size) v0 v1 v2 v3 v4 x := by
 have s1 := f1.size
 have s2 := f2.size
 have s3 := f3.size
 have s4 := f4.size
 have s5 := f5.size
 refine ⟨fun k hk => ?_, ?_, ?_, ?_, ?_, ?_⟩
 ·by_cases h : k < n
  ·rw [labc_old h] at hk; exact low k hk
  ·omega
 ·refine o0.kept2 (fun k hk hl => ?_) (fun k hk hl => ?_)
  ·exact (hw k (by omega)).trans ((f5.block k (by omega) (by omega)).trans ((f4.block k (by omega) (by omega)).trans ((f3.block k (by omega) (by omega)).trans (f2.block k (by omega) (by omega)))))
  ·rcases hk with hk | hk
   ·rw [labc_old hk.2]; exact hk.1
   ·rw [labc_new (by omega)]
    unfold labs
    rw [if_neg (by omega)]
    rw [if_pos (by omega)]
 ·refine o1.kept2 (fun k hk hl => ?_) (fun k hk hl => ?_)
  ·exact (hw k (by omega)).trans ((f5.block k (by omega) (by omega)).trans ((f4.block k (by omega) (by omega)).trans (f3.block k (by omega) (by omega))))
  ·rcases hk with hk | hk
   ·rw [labc_old hk.2]; exact hk.1
   ·rw [labc_new (by omega)]
    unfold labs
    rw [if_neg (by omega)]
    rw [if_neg (by omega)]
    rw [if_pos (by omega)]
 ·refine o2.kept2 (fun k hk hl => ?_) (fun k hk hl => ?_)
  ·exact (hw k (by omega)).trans ((f5.block k (by omega) (by omega)).trans (f4.block k (by omega) (by omega)))
  ·rcases hk with hk | hk
   ·rw [labc_old hk.2]; exact hk.1
   ·rw [labc_new (by omega)]
    unfold labs
    rw [if_neg (by omega)]
    rw [if_neg (by omega)]
    rw [if_neg (by omega)]
    rw [if_pos (by omega)]
 ·refine o3.kept2 (fun k hk hl => ?_) (fun k hk hl => ?_)
  ·exact (hw k (by omega)).trans (f5.block k (by omega) (by omega))
  ·rcases hk with hk | hk
   ·rw [labc_old hk.2]; exact hk.1
   ·rw [labc_new (by omega)]
    unfold labs
    rw [if_neg (by omega)]
    rw [if_neg (by omega)]
    rw [if_neg (by omega)]
    rw [if_neg (by omega)]
    rw [if_pos (by omega)]
 ·refine o4.kept2 (fun k hk hl => ?_) (fun k hk hl => ?_)
  ·exact (hw k (by omega))
  ·rcases hk with hk | hk
   ·rw [labc_old hk.2]; exact hk.1
   ·rw [labc_new (by omega)]
    unfold labs
    rw [if_neg (by omega)]
    rw [if_neg (by omega)]
    rw [if_neg (by omega)]
    rw [if_neg (by omega)]
    rw [if_neg (by omega)]
theorem ix_0 (g0 g1 g2 g3 g4 : Nat) (w : World) : (Instr.index 125 (.agg #[.iface 139 (.pointer (some ⟨g0, 0, none⟩)), .iface 141 (.pointer (some ⟨g1, 0, none⟩)), .iface 143 (.pointer (some ⟨g2, 0, none⟩)), .iface 145 (.pointer (some ⟨g3, 0, none⟩)), .iface 147 (.pointer (some ⟨g4, 0, none⟩))]) (.int .i64 0)).run Tryz.prog w = .ok (.iface 139 (.pointer (some ⟨g0, 0, none⟩))) w := by kernel_rfl
theorem ix_1 (g0 g1 g2 g3 g4 : Nat) (w : World) : (Instr.index 125 (.agg #[.iface 139 (.pointer (some ⟨g0, 0, none⟩)), .iface 141 (.pointer (some ⟨g1, 0, none⟩)), .iface 143 (.pointer (some ⟨g2, 0, none⟩)), .iface 145 (.pointer (some ⟨g3, 0, none⟩)), .iface 147 (.pointer (some ⟨g4, 0, none⟩))]) (.int .i64 1)).run Tryz.prog w = .ok (.iface 141 (.pointer (some ⟨g1, 0, none⟩))) w := by kernel_rfl
theorem ix_2 (g0 g1 g2 g3 g4 : Nat) (w : World) : (Instr.index 125 (.agg #[.iface 139 (.pointer (some ⟨g0, 0, none⟩)), .iface 141 (.pointer (some ⟨g1, 0, none⟩)), .iface 143 (.pointer (some ⟨g2, 0, none⟩)), .iface 145 (.pointer (some ⟨g3, 0, none⟩)), .iface 147 (.pointer (some ⟨g4, 0, none⟩))]) (.int .i64 2)).run Tryz.prog w = .ok (.iface 143 (.pointer (some ⟨g2, 0, none⟩))) w := by kernel_rfl
theorem ix_3 (g0 g1 g2 g3 g4 : Nat) (w : World) : (Instr.index 125 (.agg #[.iface 139 (.pointer (some ⟨g0, 0, none⟩)), .iface 141 (.pointer (some ⟨g1, 0, none⟩)), .iface 143 (.pointer (some ⟨g2, 0, none⟩)), .iface 145 (.pointer (some ⟨g3, 0, none⟩)), .iface 147 (.pointer (some ⟨g4, 0, none⟩))]) (.int .i64 3)).run Tryz.prog w = .ok (.iface 145 (.pointer (some ⟨g3, 0, none⟩))) w := by kernel_rfl
theorem ix_4 (g0 g1 g2 g3 g4 : Nat) (w : World) : (Instr.index 125 (.agg #[.iface 139 (.pointer (some ⟨g0, 0, none⟩)), .iface 141 (.pointer (some ⟨g1, 0, none⟩)), .iface 143 (.pointer (some ⟨g2, 0, none⟩)), .iface 145 (.pointer (some ⟨g3, 0, none⟩)), .iface 147 (.pointer (some ⟨g4, 0, none⟩))]) (.int .i64 4)).run Tryz.prog w = .ok (.iface 147 (.pointer (some ⟨g4, 0, none⟩))) w := by kernel_rfl
set_option maxRecDepth 100000 in
set_option maxHeartbeats 8000000 in
theorem contents_any {W : World} {B : Nat} {lab : Nat → Nat} {g0 g1 g2 g3 g4 : Nat} {x : Ct} (hd : Wd W B lab g0 g1 g2 g3 g4 x) (hB : B ≤ W.heap.size) (hin : CtIn 225100000000000 x) :
  Calls Tryz.prog 77 #[wdV g0 g1 g2 g3 g4] W fun e w' => ∃ v0 v1 v2 v3 v4 lab', e = .returned (.agg #[v0, v1, v2, v3, v4]) ∧ CtOwn w' B lab' v0 v1 v2 v3 v4 x ∧ Below W.heap.size W w' := by
 obtain ⟨n, hn⟩ : ∃ n, n = W.heap.size := ⟨_, rfl⟩
 rw [← hn] at hB
 have P0 := fun (w' : World) (hW : Below W.heap.size W w') (s0 s1 s2 s3 s4 : Value) (hb : w'.heap[n + 2]? = some (ctO s0 s1 s2 s3 s4)) => put_cell (hd.cell.kept (T := fun k => lab k = 0 ∧ k < n) (fun k _ hl => hW.block k hl) (fun k hk hl => ⟨hk, by omega⟩)) hb (fun e => by omega) hin.cell
 have P1 := fun (w' : World) (hW : Below W.heap.size W w') (s0 s1 s2 s3 s4 : Value) (hb : w'.heap[n + 2]? = some (ctO s0 s1 s2 s3 s4)) => put_stack (hd.stack.kept (T := fun k => lab k = 1 ∧ k < n) (fun k _ hl => hW.block k hl) (fun k hk hl => ⟨hk, by omega⟩)) hb (fun e => by omega) hin.stack
 have P2 := fun (w' : World) (hW : Below W.heap.size W w') (s0 s1 s2 s3 s4 : Value) (hb : w'.heap[n + 2]? = some (ctO s0 s1 s2 s3 s4)) => put_queue (hd.queue.kept (T := fun k => lab k = 2 ∧ k < n) (fun k _ hl => hW.block k hl) (fun k hk hl => ⟨hk, by omega⟩)) hb (fun e => by omega) hin.queue
 have P3 := fun (w' : World) (hW : Below W.heap.size W w') (s0 s1 s2 s3 s4 : Value) (hb : w'.heap[n + 2]? = some (ctO s0 s1 s2 s3 s4)) => put_set (hd.set.kept (T := fun k => lab k = 3 ∧ k < n) (fun k _ hl => hW.block k hl) (fun k hk hl => ⟨hk, by omega⟩)) hb (fun e => by omega) hin.set
 have P4 := fun (w' : World) (hW : Below W.heap.size W w') (s0 s1 s2 s3 s4 : Value) (hb : w'.heap[n + 2]? = some (ctO s0 s1 s2 s3 s4)) => put_table (hd.table.kept (T := fun k => lab k = 4 ∧ k < n) (fun k _ hl => hW.block k hl) (fun k hk hl => ⟨hk, by omega⟩)) hb (fun e => by omega) hin.table
 have low := hd.low
 unfold ctO at P0 P1 P2 P3 P4
 have hA : ((W.alloc (.cells #[.iface 139 (.pointer (some ⟨g0, 0, none⟩)), .iface 141 (.pointer (some ⟨g1, 0, none⟩)), .iface 143 (.pointer (some ⟨g2, 0, none⟩)), .iface 145 (.pointer (some ⟨g3, 0, none⟩)), .iface 147 (.pointer (some ⟨g4, 0, none⟩))] 125 (0, 0))).alloc (.cells #[.slice none 0 0, .slice none 0 0, .slice none 0 0, .slice none 0 0, .slice none 0 0] 55 (0, 0))).alloc (.cells #[.slice none 0 0, .slice none 0 0, .slice none 0 0, .slice none 0 0, .slice none 0 0] 55 (0, 0)) = ((W.alloc (.cells #[.iface 139 (.pointer (some ⟨g0, 0, none⟩)), .iface 141 (.pointer (some ⟨g1, 0, none⟩)), .iface 143 (.pointer (some ⟨g2, 0, none⟩)), .iface 145 (.pointer (some ⟨g3, 0, none⟩)), .iface 147 (.pointer (some ⟨g4, 0, none⟩))] 125 (0, 0))).alloc (.cells #[.slice none 0 0, .slice none 0 0, .slice none 0 0, .slice none 0 0, .slice none 0 0] 55 (0, 0))).alloc (.cells #[.slice none 0 0, .slice none 0 0, .slice none 0 0, .slice none 0 0, .slice none 0 0] 55 (0, 0)) := rfl
 have e0 := old_at (old_at (new_at W (.cells #[.iface 139 (.pointer (some ⟨g0, 0, none⟩)), .iface 141 (.pointer (some ⟨g1, 0, none⟩)), .iface 143 (.pointer (some ⟨g2, 0, none⟩)), .iface 145 (.pointer (some ⟨g3, 0, none⟩)), .iface 147 (.pointer (some ⟨g4, 0, none⟩))] 125 (0, 0)) n hn) (.cells #[.slice none 0 0, .slice none 0 0, .slice none 0 0, .slice none 0 0, .slice none 0 0] 55 (0, 0))) (.cells #[.slice none 0 0, .slice none 0 0, .slice none 0 0, .slice none 0 0, .slice none 0 0] 55 (0, 0))
 have e1 := old_at (new_at (W.alloc (.cells #[.iface 139 (.pointer (some ⟨g0, 0, none⟩)), .iface 141 (.pointer (some ⟨g1, 0, none⟩)), .iface 143 (.pointer (some ⟨g2, 0, none⟩)), .iface 145 (.pointer (some ⟨g3, 0, none⟩)), .iface 147 (.pointer (some ⟨g4, 0, none⟩))] 125 (0, 0))) (.cells #[.slice none 0 0, .slice none 0 0, .slice none 0 0, .slice none 0 0, .slice none 0 0] 55 (0, 0)) (n + 1) (by simp [hn])) (.cells #[.slice none 0 0, .slice none 0 0, .slice none 0 0, .slice none 0 0, .slice none 0 0] 55 (0, 0))
 have e2 := new_at ((W.alloc (.cells #[.iface 139 (.pointer (some ⟨g0, 0, none⟩)), .iface 141 (.pointer (some ⟨g1, 0, none⟩)), .iface 143 (.pointer (some ⟨g2, 0, none⟩)), .iface 145 (.pointer (some ⟨g3, 0, none⟩)), .iface 147 (.pointer (some ⟨g4, 0, none⟩))] 125 (0, 0))).alloc (.cells #[.slice none 0 0, .slice none 0 0, .slice none 0 0, .slice none 0 0, .slice none 0 0] 55 (0, 0))) (.cells #[.slice none 0 0, .slice none 0 0, .slice none 0 0, .slice none 0 0, .slice none 0 0] 55 (0, 0)) (n + 2) (by simp [hn])
 have eB : Below W.heap.size W (((W.alloc (.cells #[.iface 139 (.pointer (some ⟨g0, 0, none⟩)), .iface 141 (.pointer (some ⟨g1, 0, none⟩)), .iface 143 (.pointer (some ⟨g2, 0, none⟩)), .iface 145 (.pointer (some ⟨g3, 0, none⟩)), .iface 147 (.pointer (some ⟨g4, 0, none⟩))] 125 (0, 0))).alloc (.cells #[.slice none 0 0, .slice none 0 0, .slice none 0 0, .slice none 0 0, .slice none 0 0] 55 (0, 0))).alloc (.cells #[.slice none 0 0, .slice none 0 0, .slice none 0 0, .slice none 0 0, .slice none 0 0] 55 (0, 0))) := (((Below.refl _ _).alloc (Nat.le_refl _) _).alloc (by simp) _).alloc (by simp; omega) _
 have eS : (((W.alloc (.cells #[.iface 139 (.pointer (some ⟨g0, 0, none⟩)), .iface 141 (.pointer (some ⟨g1, 0, none⟩)), .iface 143 (.pointer (some ⟨g2, 0, none⟩)), .iface 145 (.pointer (some ⟨g3, 0, none⟩)), .iface 147 (.pointer (some ⟨g4, 0, none⟩))] 125 (0, 0))).alloc (.cells #[.slice none 0 0, .slice none 0 0, .slice none 0 0, .slice none 0 0, .slice none 0 0] 55 (0, 0))).alloc (.cells #[.slice none 0 0, .slice none 0 0, .slice none 0 0, .slice none 0 0, .slice none 0 0] 55 (0, 0))).heap.size = n + 3 := by simp [hn]
 clear hA hd
 replace P0 := Mr.hid P0
 replace P1 := Mr.hid P1
 replace P2 := Mr.hid P2
 replace P3 := Mr.hid P3
 replace P4 := Mr.hid P4
 replace low := Mr.hid low
 replace hn := Mr.hid hn
 unfold wdV
 go_enter Tryz.func77, Tryz.ntmps77
 go_wp2
 obtain ⟨w0, hw0⟩ : ∃ w0, ((W.alloc (.cells #[.iface 139 (.pointer (some ⟨g0, 0, none⟩)), .iface 141 (.pointer (some ⟨g1, 0, none⟩)), .iface 143 (.pointer (some ⟨g2, 0, none⟩)), .iface 145 (.pointer (some ⟨g3, 0, none⟩)), .iface 147 (.pointer (some ⟨g4, 0, none⟩))] 125 (0, 0))).alloc (.cells #[.slice none 0 0, .slice none 0 0, .slice none 0 0, .slice none 0 0, .slice none 0 0] 55 (0, 0))).alloc (.cells #[.slice none 0 0, .slice none 0 0, .slice none 0 0, .slice none 0 0, .slice none 0 0] 55 (0, 0)) = w0 := ⟨_, rfl⟩
 rw [hw0] at e0 e1 e2 eB eS ⊢
 rw [show (⟨W.heap.size + 1 + 1, 0, none⟩ : Addr) = ⟨n + 2, 0, none⟩ from by rw [hn.out], show (⟨W.heap.size + 1, 0, none⟩ : Addr) = ⟨n + 1, 0, none⟩ from by rw [hn.out], show (⟨W.heap.size, 0, none⟩ : Addr) = ⟨n, 0, none⟩ from by rw [hn.out]]
 clear hw0 e0
 have TB0 := Mr.hid eB
 have HS0 := Mr.hid e2
 have HR0 := Mr.hid e1
 replace eS := Mr.hid eS
 clear e1 e2 eB
 have ix0 := ix_0 g0 g1 g2 g3 g4
 have ix1 := ix_1 g0 g1 g2 g3 g4
 have ix2 := ix_2 g0 g1 g2 g3 g4
 have ix3 := ix_3 g0 g1 g2 g3 g4
 have ix4 := ix_4 g0 g1 g2 g3 g4
 refine wp_loop_rounds 6 ?_
 rw [rounds_succ]
 go_wp2_with (first | (go_at_call 96; refine (P0.out _ TB0.out _ _ _ _ _ HS0.out).mono ?_; rintro e w1 ⟨rfl, v0, hO0, hS0, hF0⟩; obtain ⟨a0, c0, rfl, _, _⟩ := hO0.form))
 have HS1 := Mr.hid hS0
 have TB1 := Mr.hid (TB0.out.trans (hF0.below (n := W.heap.size) (fun k e => by have := hn.out; omega) TB0.out.size))
 have HR1 := Mr.hid ((hF0.block (n + 1) (Array.getElem?_eq_some_iff.1 HR0.out).1 (by omega)).trans HR0.out)
 replace hO0 := Mr.hid hO0
 replace hF0 := Mr.hid hF0
 clear hS0
 rw [rounds_succ]
 go_wp2_with (first | (go_at_call 96; refine (P1.out _ TB1.out _ _ _ _ _ HS1.out).mono ?_; rintro e w2 ⟨rfl, v1, hO1, hS1, hF1⟩; obtain ⟨a1, c1, rfl, _, _⟩ := hO1.form))
 have HS2 := Mr.hid hS1
 have TB2 := Mr.hid (TB1.out.trans (hF1.below (n := W.heap.size) (fun k e => by have := hn.out; omega) TB1.out.size))
 have HR2 := Mr.hid ((hF1.block (n + 1) (Array.getElem?_eq_some_iff.1 HR1.out).1 (by omega)).trans HR1.out)
 replace hO1 := Mr.hid hO1
 replace hF1 := Mr.hid hF1
 clear hS1
 rw [rounds_succ]
 go_wp2_with (first | (go_at_call 96; refine (P2.out _ TB2.out _ _ _ _ _ HS2.out).mono ?_; rintro e w3 ⟨rfl, v2, hO2, hS2, hF2⟩; obtain ⟨a2, c2, rfl, _, _⟩ := hO2.form))
 have HS3 := Mr.hid hS2
 have TB3 := Mr.hid (TB2.out.trans (hF2.below (n := W.heap.size) (fun k e => by have := hn.out; omega) TB2.out.size))
 have HR3 := Mr.hid ((hF2.block (n + 1) (Array.getElem?_eq_some_iff.1 HR2.out).1 (by omega)).trans HR2.out)
 replace hO2 := Mr.hid hO2
 replace hF2 := Mr.hid hF2
 clear hS2
 rw [rounds_succ]
 go_wp2_with (first | (go_at_call 96; refine (P3.out _ TB3.out _ _ _ _ _ HS3.out).mono ?_; rintro e w4 ⟨rfl, v3, hO3, hS3, hF3⟩; obtain ⟨a3, c3, rfl, _, _⟩ := hO3.form))
 have HS4 := Mr.hid hS3
 have TB4 := Mr.hid (TB3.out.trans (hF3.below (n := W.heap.size) (fun k e => by have := hn.out; omega) TB3.out.size))
 have HR4 := Mr.hid ((hF3.block (n + 1) (Array.getElem?_eq_some_iff.1 HR3.out).1 (by omega)).trans HR3.out)
 replace hO3 := Mr.hid hO3
 replace hF3 := Mr.hid hF3
 clear hS3
 rw [rounds_succ]
 go_wp2_with (first | (go_at_call 96; refine (P4.out _ TB4.out _ _ _ _ _ HS4.out).mono ?_; rintro e w5 ⟨rfl, v4, hO4, hS4, hF4⟩; obtain ⟨a4, c4, rfl, _, _⟩ := hO4.form))
 have HS5 := Mr.hid hS4
 have TB5 := Mr.hid (TB4.out.trans (hF4.below (n := W.heap.size) (fun k e => by have := hn.out; omega) TB4.out.size))
 have HR5 := Mr.hid ((hF4.block (n + 1) (Array.getElem?_eq_some_iff.1 HR4.out).1 (by omega)).trans HR4.out)
 replace hO4 := Mr.hid hO4
 replace hF4 := Mr.hid hF4
 clear hS4
 obtain ⟨y0, y1, y2, y3, y4, y5⟩ := ifs_cells HS5.out
 obtain ⟨z0, z1, z2, z3, z4, z5⟩ := ifs_cells HR5.out
 obtain ⟨f0, f1, f2, f3, f4⟩ := ifs_thaw HR5.out
 have hne : n + 1 ≠ n + 2 := by omega
 rw [rounds_succ]
 have hH := set5_five (.slice a0 x.cell.length c0) (.slice a1 x.stack.length c1) (.slice a2 x.queue.length c2) (.slice a3 x.set.length c3) (.slice a4 x.table.length c4) HR5.out
 obtain ⟨x0, x1, x2, x3, x4, x5⟩ := ifs_cells hH
 have hD := ct_made (w6 := set5 w5 (n + 1) (.slice a0 x.cell.length c0) (.slice a1 x.stack.length c1) (.slice a2 x.queue.length c2) (.slice a3 x.set.length c3) (.slice a4 x.table.length c4)) (B := B) (n := n) (bS := n + 2) (bR := n + 1) hO0.out hO1.out hO2.out hO3.out hO4.out hF0.out hF1.out hF2.out hF3.out hF4.out (fun k h => set5_far _ _ _ _ _ _ _ k h) low.out hB (by omega) (by have := eS.out; omega) (by omega) (by have := eS.out; omega)
 have hE := set5_below (b := n + 1) (.slice a0 x.cell.length c0) (.slice a1 x.stack.length c1) (.slice a2 x.queue.length c2) (.slice a3 x.set.length c3) (.slice a4 x.table.length c4) TB5.out (by have := hn.out; omega)
 unfold set5 at x0 x1 x2 x3 x4 x5 hD hE
 replace hD := Mr.hid hD
 replace hE := Mr.hid hE
 clear hH
 go_wp2
 refine bodyPost_ret (v := .agg #[.slice a0 x.cell.length c0, .slice a1 x.stack.length c1, .slice a2 x.queue.length c2, .slice a3 x.set.length c3, .slice a4 x.table.length c4]) (by simp [results, Tryz.results77, go_sem, x0, x1, x2, x3, x4]) rfl ⟨_, _, _, _, _, _, rfl, hD.out, hE.out⟩
end Go.Proofs.YtnbibkohgppjnaaGreat.Md
