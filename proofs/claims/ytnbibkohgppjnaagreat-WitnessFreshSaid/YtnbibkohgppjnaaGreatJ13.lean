import Derived.Test.YtnbibkohgppjnaaGreatJ10
import Derived.Test.YtnbibkohgppjnaaGreatJ11
import Derived.Test.YtnbibkohgppjnaaGreatJ12
import Derived.Test.YtnbibkohgppjnaaGreatShelfF
import Derived.BigQuiet
import Derived.Deep.LoopGhost
import Derived.Test.YtnbibkohgppjnaaGreatJ01
import Derived.RangeFuncNested
import Derived.RangeFuncBound
import Derived.RangeFuncCalls
import Derived.RangeFuncLeaves
set_option linter.unusedVariables false
set_option linter.unusedSimpArgs false
set_option maxRecDepth 100000
namespace Go.Proofs.YtnbibkohgppjnaaGreat.Wt
open Go.RowKit Mr Md
set_option maxHeartbeats 8000000 in
theorem points1_any {w : World} {b1 bc oc n cap : Nat} (hbox : w.cell? ⟨b1, 0, none⟩ = some (.slice (some ⟨bc, oc, none⟩) n cap)) {x y : Nat} {c d : Cq} (hx : x < n) (hy : y < n) (hc : At9 w bc (oc + x * 9) c) (hd : At9 w bc (oc + y * 9) d) :
  Calls Tryz.prog 25 #[.int .i64 (x : Int), .int .i64 (y : Int), .pointer (some ⟨b1, 0, none⟩)] w fun e w' => e = .returned (.int .i64 (cmpI c.pt d.pt)) ∧ ∃ q, w' = w.drewN q := by
 obtain ⟨hbl, -, -, -, -, -, -, g6, -, -⟩ := hc
 obtain ⟨-, -, -, -, -, -, -, d6, -, -⟩ := hd
 have f1 : (x : Int) < (n : Int) := by omega
 have f2 : (y : Int) < (n : Int) := by omega
 have C := fun w => compare_any c.pt d.pt w
 generalize cmpI c.pt d.pt = r at *
 replace C := Mr.hid C
 go_enter Tryz.func25, Tryz.ntmps25
 go_upto_region 1 with (fail)
 go_quiet ((go_at_call 26; exact Calls.quiet_of_same (C.out _)))
 go_wp2
 go_ret
 exact ⟨rfl, nq, rfl⟩
def encF {n : Nat} (x : Fin n) : Value := .int .i64 (x.val : Int)
def nums {n : Nat} (d : List (Fin n)) : List Int := d.map fun x => (x.val : Int)
theorem nums_of {n : Nat} : ∀ {l : List Int}, (∀ y ∈ l, 0 ≤ y ∧ y < (n : Int)) → ∃ d : List (Fin n), nums d = l := by
 intro l
 induction l with
 | nil => intro _; exact ⟨[], rfl⟩
 | cons y l ih =>
  intro h
  obtain ⟨d, hd⟩ := ih (fun z hz => h z (List.mem_cons_of_mem _ hz))
  have hy := h y (by simp)
  exact ⟨⟨y.toNat, by omega⟩ :: d, by simp [nums] at hd ⊢; exact ⟨by omega, hd⟩⟩
def cfP (cs : List Cq) {n : Nat} (x y : Fin n) : Int := cmpI (ptAt cs (x.val : Int)) (ptAt cs (y.val : Int))
theorem ltOf_cfP (cs : List Cq) {n : Nat} (x y : Fin n) : ltOf (cfP cs) x y = decide (ptAt cs (x.val : Int) < ptAt cs (y.val : Int)) := by
 unfold ltOf cfP; exact cmpI_neg _ _
theorem swo_cfP (cs : List Cq) {n : Nat} : Sort.SWO (ltOf (cfP cs (n := n))) := by
 refine ⟨fun x => ?_, fun x y z h1 h2 => ?_, fun x y z h1 h2 => ?_⟩
 ·rw [ltOf_cfP]; simp
 ·rw [ltOf_cfP] at *; simp at *; omega
 ·rw [ltOf_cfP] at *; simp at *; omega
theorem sort_cell {α : Type} [Inhabited α] (enc : α → Value) {W : World} {blk off m : Nat} {dk : Array α} {os : Array Obj} {p : Addr} (hp : p.block < W.heap.size) (hne : p.block ≠ blk) : (sortWorld enc W blk off m dk os).cell? p = W.cell? p := by
 unfold sortWorld
 rw [Sort.cell?_grow _ _ _ (by simpa using hp)]
 simp [World.cell?, Sort.putRow, Sort.mapBlock, Sort.ahead, Array.getElem?_modify, Ne.symm hne]
theorem sort_at9 {α : Type} [Inhabited α] (enc : α → Value) {W : World} {blk off m : Nat} {dk : Array α} {os : Array Obj} {b o : Nat} {c : Cq} (h : At9 W b o c) (hne : b ≠ blk) : At9 (sortWorld enc W blk off m dk os) b o c := by
 have e := fun k => sort_cell enc (W := W) (blk := blk) (off := off) (m := m) (dk := dk) (os := os) (p := ⟨b, k, none⟩) h.lt hne
 exact ⟨Nat.lt_of_lt_of_le h.lt (by unfold sortWorld; simp), (e _).trans h.c0, (e _).trans h.c1, (e _).trans h.c2, (e _).trans h.c3, (e _).trans h.c4, (e _).trans h.c5, (e _).trans h.c6, (e _).trans h.c7, (e _).trans h.c8⟩
end Go.Proofs.YtnbibkohgppjnaaGreat.Wt
namespace Go.Proofs.YtnbibkohgppjnaaGreat.Md
open Go.RowKit Mr
section
variable {P : Program} (w : World)
end
section
variable {w w' : World} {S T : Nat → Prop} {e : TypeId} {size n0 n : Nat} {v0 v : Value} {xs0 : List Value}
theorem Own.put {xs : List Value} {g o cap : Nat} (h : Own w S e size (.slice (some ⟨g, o, none⟩) n cap) n xs) (hn : 0 < n) {j : Nat} (hj : j < n * size) (u : Value) : Own (w.setCell ⟨g, o + j, none⟩ u) S e size (.slice (some ⟨g, o, none⟩) n cap) n (xs.set j u) := by
 obtain ⟨h1, a, c, hv, hc, hm, h2⟩ := h
 cases hv
 refine ⟨by rw [List.length_set]; exact h1, _, _, rfl, hc, hm, .inr ?_⟩
 rcases h2 with h2 | ⟨g', o', cur, ha, hS, hg, hs, hx⟩
 ·omega
 ·cases ha
  refine ⟨g, o, _, rfl, hS, setBlk hg (o + j) u, by simpa using hs, ?_⟩
  apply List.ext_getElem?
  intro k
  rw [List.getElem?_take, List.getElem?_set, ← hx]
  simp only [Array.toList_setIfInBounds, List.getElem?_drop, List.getElem?_set, List.getElem?_take, List.length_take, List.length_drop, Array.length_toList]
  have : n * size ≤ cap * size := Nat.mul_le_mul_right _ hc
  by_cases hk : k < n * size
  ·rw [if_pos hk]
   by_cases hjk : j = k
   ·subst hjk
    rw [if_pos rfl, if_pos rfl, if_pos (by omega), if_pos (by omega)]
   ·rw [if_neg (by omega), if_neg hjk, if_pos hk]
  ·rw [if_neg hk, if_neg (by omega), if_neg hk]
end
end Go.Proofs.YtnbibkohgppjnaaGreat.Md
namespace Go.Proofs.YtnbibkohgppjnaaGreat.Wt
open Go.RowKit Mr Md
structure Nw (W w : World) (u : Value) (l : List Int) : Prop where
 bel : Below W.heap.size W w
 own : Md.Own w (fun k => W.heap.size ≤ k) 3 1 u l.length (ints l)
theorem Nw.below {W w w' : World} {u : Value} {l : List Int} (h : Nw W w u l) (hB : Below w.heap.size w w') : Nw W w' u l := ⟨h.bel.trans (hB.mono h.bel.size), h.own.below hB⟩
theorem Nw.app {W w w1 w2 : World} {u u' : Value} {l : List Int} {x : Int} {o : Obj} (h : Nw W w u l) (h1 : w1 = w.alloc o) (ho : Md.Own w2 (fun k => W.heap.size ≤ k ∨ k = w1.heap.size) 3 1 u' (l.length + 1) (ints l ++ [.int .i64 x])) (hf : Fr w1 w2 (fun k => W.heap.size ≤ k)) : Nw W w2 u' (l ++ [x]) := by
 have B1 : Below W.heap.size W w1 := by subst h1; exact h.bel.alloc h.bel.size _
 have e : ints l ++ [Value.int .i64 x] = ints (l ++ [x]) := by simp [ints]
 rw [e] at ho
 refine ⟨⟨hf.os.trans B1.os, hf.tape.trans B1.tape, hf.output.trans B1.output, Nat.le_trans B1.size hf.size, fun k hk => (hf.block k (Nat.lt_of_lt_of_le hk B1.size) (by omega)).trans (B1.block k hk)⟩, ?_⟩
 rw [List.length_append]
 exact ho.mono (fun k hk => by have := B1.size; omega)
theorem Nw.put2 {W w : World} {g o n cap : Nat} {l : List Int} (h : Nw W w (.slice (some ⟨g, o, none⟩) n cap) l) (hn : l.length = n) {j k : Nat} (hj : j < n) (hk : k < n) (x y : Int) : Nw W ((w.setCell ⟨g, o + j, none⟩ (.int .i64 x)).setCell ⟨g, o + k, none⟩ (.int .i64 y)) (.slice (some ⟨g, o, none⟩) n cap) ((l.set j x).set k y) := by
 obtain ⟨g', o', cap', cur, e, _, _, hS, _⟩ := h.own.there (by omega)
 have e1 := h.own
 rw [hn] at e e1
 cases e
 have e2 := (e1.put (by omega) (j := j) (by omega) (.int .i64 x)).put (by omega) (j := k) (by omega) (.int .i64 y)
 refine ⟨(h.bel.setCell (p := ⟨g, _, none⟩) hS _).setCell (p := ⟨g, _, none⟩) hS _, ?_⟩
 have e3 : ((ints l).set j (.int .i64 x)).set k (.int .i64 y) = ints ((l.set j x).set k y) := by simp [ints, List.map_set]
 rw [e3] at e2
 simpa [hn] using e2
theorem Nw.cell {W w : World} {g o n cap : Nat} {l : List Int} (h : Nw W w (.slice (some ⟨g, o, none⟩) n cap) l) {k : Nat} {x : Int} (hx : l[k]? = some x) : w.cell? ⟨g, o + k, none⟩ = some (.int .i64 x) ∧ w.frozen? ⟨g, o + k, none⟩ = false ∧ g < w.heap.size := by
 have hk := (List.getElem?_eq_some_iff.1 hx).1
 obtain ⟨g', o', cap', cur, e, _, _, hS, hg, hs, hxx⟩ := h.own.there (by omega)
 cases e
 exact ⟨own_cells hg hxx k _ (by rw [ints, List.getElem?_map, hx]; rfl), by simp [World.frozen?, hg], (Array.getElem?_eq_some_iff.1 hg).1⟩
theorem Nw.len {W w : World} {a : Option Addr} {n cap : Nat} {l : List Int} (h : Nw W w (.slice a n cap) l) : l.length = n := by
 obtain ⟨_, _, e, _⟩ := h.own.form; cases e; rfl
section
variable {W : World} {T : Nat → Prop} {v : Value} {cs : List Cq}
end
end Go.Proofs.YtnbibkohgppjnaaGreat.Wt
namespace Go.Proofs.YtnbibkohgppjnaaGreat.Wt
open Go.RowKit Mr Md
theorem own_of {W : World} {S : Nat → Prop} {e : TypeId} {g o n cap : Nat} {cur : Array Value} {xs : List Value} (hc : n ≤ cap) (hm : cap ≤ maxLen) (hS : S g) (hg : W.heap[g]? = some (.cells cur e (0, 0))) (hs : o + cap * 1 ≤ cur.size) (hl : xs.length = n * 1) (hr : ∀ j u, xs[j]? = some u → W.cell? ⟨g, o + j, none⟩ = some u) : Md.Own W S e 1 (.slice (some ⟨g, o, none⟩) n cap) n xs := by
 refine ⟨hl, _, cap, rfl, hc, hm, .inr ⟨g, o, cur, rfl, hS, hg, hs, ?_⟩⟩
 apply List.ext_getElem?
 intro j
 rw [List.getElem?_take]
 split
 ·rename_i hj
  have hj' : j < xs.length := by omega
  have := hr j _ (List.getElem?_eq_getElem hj')
  rw [cell_of_row W g (o + j) cur e (0, 0) hg] at this
  rw [List.getElem?_drop, List.getElem?_eq_getElem hj', ← this]
  simp
 ·rw [List.getElem?_eq_none (by omega)]
theorem sl_low {W : World} {T : Nat → Prop} {size n : Nat} {v : Value} {xs : List Value} (h : Sl W T size v n xs) : Sl W (fun k => k < W.heap.size) size v n xs := by
 obtain ⟨h1, a, cap, hv, hc, h2⟩ := h
 refine ⟨h1, a, cap, hv, hc, h2.imp id ?_⟩
 rintro ⟨b, o, ha, _, hl, hr⟩
 exact ⟨b, o, ha, hl, hl, hr⟩
theorem sortF_own {W : World} {S T : Nat → Prop} {u : Value} {l : List Int} {cs : List Cq} {b1 : Nat} {a : Option Addr} {cap : Nat} (hu : Md.Own W S 3 1 u l.length (ints l)) (hbox : W.cell? ⟨b1, 0, none⟩ = some (.slice a cs.length cap)) (hb1 : b1 < W.heap.size) (hv : Sl W T 9 (.slice a cs.length cap) cs.length (cqs cs)) (hS1 : ¬ S b1) (hST : ∀ k, T k → k < W.heap.size → ¬ S k) (hl : ∀ y ∈ l, 0 ≤ y ∧ y < (cs.length : Int)) (hsz : l.length < 4611686018427387904) :
  Calls Tryz.prog 24 #[u, .func (.func 25) #[] #[.pointer (some ⟨b1, 0, none⟩)]] W fun e w' => e = .returned (.tuple #[]) ∧ Fr W w' S ∧ ∃ l' : List Int, l'.Perm l ∧ l'.Pairwise (fun a b => ptAt cs a ≤ ptAt cs b) ∧ Md.Own w' S 3 1 u l'.length (ints l') := by
 by_cases h0 : l.length = 0
 ·obtain ⟨au, cu, rfl, hc, _⟩ := hu.form
  have hz : l = [] := List.eq_nil_of_length_eq_zero h0
  subst hz
  refine (Tryz.slices_SortFunc_none (α := Nat) au cu _ W).mono ?_
  rintro e w' ⟨rfl, rfl⟩
  exact ⟨rfl, Fr.refl _ _, [], List.Perm.refl _, List.Pairwise.nil, hu⟩
 ·obtain ⟨g, o, cu, cur, rfl, hc, hm, hSg, hg, hs, hx⟩ := hu.there (by omega)
  obtain ⟨d, rfl⟩ := nums_of hl
  have hlen : (nums d).length = d.length := by simp [nums]
  have hd0 : 0 < d.length := by omega
  haveI : Inhabited (Fin cs.length) := ⟨d[0]⟩
  have hl2 := (Array.getElem?_eq_some_iff.1 hg).1
  have hH : Sort.Holds (encF (n := cs.length)) W g o d.toArray := by
   intro j hj
   have hj' : j < d.length := by simpa using hj
   refine ⟨?_, by simp [World.frozen?, hg]⟩
   have := own_cells hg hx j _ (ints_get (nums d) j (by rw [hlen]; exact hj'))
   rw [this]
   simp [nums, encF, hj']
  have hcmp : CmpLays1 Tryz.prog 25 #[.pointer (some ⟨b1, 0, none⟩)] (encF (n := cs.length)) (cfP cs) g o d.toArray.size W := by
   refine CmpReads.lays ?_
   intro m os dk hdk x y
   obtain ⟨c, hcx⟩ := get_of_lt (cs := cs) x.isLt
   obtain ⟨c', hcy⟩ := get_of_lt (cs := cs) y.isLt
   obtain ⟨bc, oc, e1, A1⟩ := call_at hv hcx
   obtain ⟨bc', oc', e2, A2⟩ := call_at hv hcy
   rw [e1] at e2; cases e2
   subst e1
   have hTb : T bc := by
    obtain ⟨b', o', cap', e, _, hT, _⟩ := hv.there (by have := x.isLt; omega)
    cases e; exact hT
   have hbg : bc ≠ g := fun e => hST bc hTb A1.lt (by rw [e]; exact hSg)
   have hb1g : b1 ≠ g := fun e => hS1 (by rw [e]; exact hSg)
   have hb := (sort_cell (encF (n := cs.length)) (W := W) (blk := g) (off := o) (m := m) (dk := dk) (os := os) (p := ⟨b1, 0, none⟩) hb1 hb1g).trans hbox
   have := points1_any hb x.isLt y.isLt (sort_at9 (encF (n := cs.length)) A1 hbg (off := o) (m := m) (dk := dk) (os := os)) (sort_at9 (encF (n := cs.length)) A2 hbg (off := o) (m := m) (dk := dk) (os := os))
   rw [← ptAt_get hcx, ← ptAt_get hcy] at this
   exact this
  have hO : OneCell (encF (n := cs.length)) := fun x => rfl
  have eg : ∀ args w, (callFunc 25 args).run Tryz.prog w = .ok (.enter 25 args) w := enters_of Tryz.func25 (by kernel_rfl) rfl
  have := Tryz.slices_SortFunc (encF (n := cs.length)) hO (cfP cs) (swo_cfP cs) 25 #[.pointer (some ⟨b1, 0, none⟩)] g o cu d.toArray W eg hcmp hH hl2 (by simpa [nums] using hsz)
  rw [show d.toArray.size = (nums d).length from by simp [nums]] at this
  refine this.mono ?_
  rintro e w' ⟨rfl, d', n, os, hp, hsd, rfl⟩
  have hsz' : d'.size = d.length := by have := hp.1; simpa using this
  have hperm : d'.toList.Perm d := by
   have h9 : (List.take d.length d'.toList).Perm d := by
    have := hp.2.2
    simpa [nums, hsz', Array.extract_size] using this
   rwa [List.take_of_length_le (by simp [hsz'])] at h9
  refine ⟨rfl, ⟨rfl, rfl, rfl, by unfold sortWorld; simp, fun k hk hne => ?_⟩, nums d'.toList, hperm.map _, ?_, ?_⟩
  ·unfold sortWorld
   rw [Sort.heap_grow_old _ _ (by simpa using hk)]
   have : g ≠ k := fun e => hne (by rw [← e]; exact hSg)
   simp [Sort.putRow, Sort.mapBlock, Sort.ahead, Array.getElem?_modify, this]
  ·unfold nums
   rw [List.pairwise_map, List.pairwise_iff_getElem]
   intro i j hi hj hij
   have h1 := hsd i j (Nat.zero_le _) hij (by simp at hj; rw [hlen]; omega)
   rw [ltOf_cfP] at h1
   simp at hi hj
   simp [hi, hj] at h1 ⊢
   omega
  ·have el : (nums d'.toList).length = (nums d).length := by simp [nums, hsz']
   have hSl : ∀ j u, (ints (nums d'.toList))[j]? = some u → (sortWorld (encF (n := cs.length)) W g o n d' os).cell? ⟨g, o + j, none⟩ = some u := fun j u hu => by
    have hj : j < d'.size := by have := (List.getElem?_eq_some_iff.1 hu).1; simpa [ints, nums] using this
    unfold sortWorld
    rw [Sort.cell?_grow _ _ _ (by simpa using hl2)]
    have := Sort.cell?_putRow (encF (n := cs.length)) (Sort.ahead W n) g o d.toArray d' hH (by simpa using hsz') j hj
    rw [this]
    simp [ints, nums, encF, hj] at hu ⊢
    rw [← hu]
   have hblk : (sortWorld (encF (n := cs.length)) W g o n d' os).heap[g]? = some (.cells (Sort.putCells (encF (n := cs.length)) o d' cur) 3 (0, 0)) := by
    unfold sortWorld
    rw [Sort.heap_grow_old _ _ (by simpa using hl2)]
    simp [Sort.putRow, Sort.mapBlock, Sort.ahead, Array.getElem?_modify, hg, Sort.onCells]
   have hcs : (Sort.putCells (encF (n := cs.length)) o d' cur).size = cur.size := by simp [Sort.putCells]
   rw [el]
   refine own_of hc hm hSg hblk (by rw [hcs]; exact hs) (by simp [ints, nums, hsz']) hSl
section
variable {W : World} {T : Nat → Prop} {v : Value} {cs : List Cq}
set_option maxHeartbeats 8000000 in
theorem points_no (hv : Sl W T 9 v cs.length (cqs cs)) (hsm : cs.length * 72 ≤ 281474976710656) (hm : ¬ MayC cs) :
  Calls Tryz.prog 14 #[v] W fun e w' => e = .returned (.tuple #[.slice none 0 0, .int .i64 120]) ∧ Below W.heap.size W w' := by
 have PM := fun o => may_any (hv.below ((Below.refl _ _).alloc (Nat.le_refl _) o)) hsm
 rw [mayB_false hm] at PM
 obtain ⟨a, cap, rfl, hcap⟩ := hv.form
 generalize cs.length = n at *
 replace PM := Mr.hid PM
 clear hv hm hsm
 go_enter Tryz.func14, Tryz.ntmps14
 go_wp2_with (go_at_call 22; refine (PM.out _).mono ?_; clear PM; rintro e w1 ⟨rfl, hB1⟩; replace hB1 : Below W.heap.size W w1 := ((Below.refl _ _).alloc (Nat.le_refl _) _).trans (hB1.mono (by simp)))
 refine bodyPost_ret (v := .tuple #[.slice none 0 0, .int .i64 120]) (by simp [results, Tryz.results14, go_sem]) rfl ?_
 exact ⟨rfl, hB1⟩
set_option maxHeartbeats 16000000 in
theorem points_own (hv : Sl W T 9 v cs.length (cqs cs)) (hsm : cs.length * 72 ≤ 281474976710656) (hm : MayC cs) :
  Calls Tryz.prog 14 #[v] W fun e w' => ∃ u l, e = .returned (.tuple #[u, .int .i64 0]) ∧ Md.Own w' (fun k => W.heap.size ≤ k) 3 1 u l.length (ints l) ∧ l.Perm (pix cs 0) ∧ l.Pairwise (fun a b => ptAt cs a ≤ ptAt cs b) ∧ Below W.heap.size W w' := by
 have PM := fun o => may_any (hv.below ((Below.refl _ _).alloc (Nat.le_refl _) o)) hsm
 rw [mayB_true hm] at PM
 obtain ⟨i0, hi0, hz0, hz1, hz2⟩ := parts_of wt_int
 obtain ⟨a, cap, rfl, hcap⟩ := hv.form
 have hv1 := sl_low hv
 obtain ⟨n, hn⟩ : ∃ n, n = cs.length := ⟨_, rfl⟩
 rw [← hn] at hsm hcap PM ⊢
 replace hn := Mr.hid hn
 replace hv := Mr.hid hv1
 clear hv1 hm
 replace PM := Mr.hid PM
 go_enter Tryz.func14, Tryz.ntmps14
 go_wp2_with (go_at_call 22; refine (PM.out _).mono ?_; clear PM; rintro e W1 ⟨rfl, hB1⟩; have hbx : W1.cell? ⟨W.heap.size, 0, none⟩ = some (.slice a n cap) := (by rw [hB1.cell (p := ⟨W.heap.size, 0, none⟩) (by simp)]; simp); have hbl : W.heap.size < W1.heap.size := Nat.lt_of_lt_of_le (by simp) hB1.size; replace hB1 : Below W.heap.size W W1 := ((Below.refl _ _).alloc (Nat.le_refl _) _).trans (hB1.mono (by simp)); replace hB1 := Mr.hid hB1)
 have hv1 := Mr.hid (hv.out.below hB1.out)
 have hBX := Mr.hid (fun w (hB : Below W1.heap.size W1 w) => (hB.cell (p := ⟨W.heap.size, 0, none⟩) hbl).trans hbx)
 go_loopg [4, 12] n (fun k s4 s12 wr => ∃ i : Nat, s12 = .int .i64 (i : Int) ∧ i + k = n ∧ Nw W1 wr s4 (pix (cs.take i) 0))
 case atStart => exact ⟨0, rfl, by omega, Below.refl _ _, Md.Own.zero _ _ _ _ _⟩
 case round =>
  clear hbx
  obtain ⟨i, rfl, hi, hA⟩ := hrel
  by_cases hlt : i < n
  ·obtain ⟨c, hci⟩ := get_of_lt (cs := cs) (i := i) (by have := hn.out; omega)
   obtain ⟨bc, oc, rfl, A9⟩ := call_at (hv1.out.below hA.bel) hci
   obtain ⟨u, cu, rfl, hcu, hcm⟩ := hA.own.form
   obtain ⟨l, hl⟩ : ∃ l, l = pix (cs.take i) 0 := ⟨_, rfl⟩
   rw [← hl] at hA hcu ⊢
   have hll : l.length ≤ i := by rw [hl]; exact Nat.le_trans (pix_len _ _) (by simp; omega)
   have hnx := pix_take cs i c hci
   rw [← hl] at hnx
   have hbx : ∀ w1, w1 = wr.alloc (cqO c) → w1.heap[wr.heap.size]? = some (cqO c) ∧ Nw W1 w1 (.slice u l.length cu) l := by rintro w1 rfl; exact ⟨new_at _ _ _ rfl, hA.below ((Below.refl _ _).alloc (Nat.le_refl _) _)⟩
   obtain ⟨hbc, g0, g1, g2, g3, g4, g5, g6, g7, g8⟩ := A9
   have hlI : (i : Int) < (n : Int) := by omega
   have hw1 : IntKind.i64.wrap ((i : Int) + 1) = (i : Int) + 1 := i64x _ (by omega) (by omega)
   have CT := fun w => counts_any c w
   unfold Cq.val at CT
   clear hA hl
   replace hbx := Mr.hid hbx
   replace hnx := Mr.hid hnx
   replace hci := Mr.hid hci
   go_upto_region 7 with (fail)
   obtain ⟨hX5, hA⟩ := hbx.out _ rfl
   unfold cqO at hX5 hA
   clear hbx g0 g1 g2 g3 g4 g5 g6 g7 g8 hbc
   generalize (wr.alloc (Obj.cells #[.int .i64 c.th, .int .i64 c.op, .int .i64 c.arg, .int .i64 c.data, .int .i64 c.beg, .int .i64 c.fin, .int .i64 c.pt, .int .i64 c.ak, .int .i64 c.av] 45 (0, 0))) = w5 at *
   generalize wr.heap.size = bx at *
   clear wr
   obtain ⟨k0, k1, k2, k3, k4, k5, k6, k7, k8, kl⟩ := cq_cells (c := c) hX5
   replace hX5 := Mr.hid hX5
   replace hA := Mr.hid hA
   by_cases hct : obj c.op ≠ 0 ∧ c.pt ≠ -1
   ·have hct1 : (obj c.op != 0) = true := by simp [hct.1]
    have hct2 : (c.pt != -1) = true := by simp [hct.2]
    rw [hct1] at CT
    have hnx2 := Mr.hid (show pix (cs.take (i + 1)) 0 = l ++ [(i : Int)] by rw [hnx.out, if_pos hct])
    replace hct := Mr.hid hct
    replace CT := Mr.hid CT
    go_wp2_with (first
     | (go_at_call 23; refine (CT.out _).mono ?_; clear CT; rintro e w7 ⟨rfl, hB7⟩; replace hA := Mr.hid (hA.out.below hB7); have hX7 := (hB7.block _ kl).trans hX5.out; clear k0 k1 k2 k3 k4 k5 k6 k7 k8 hB7; obtain ⟨k0, k1, k2, k3, k4, k5, k6, k7, k8, kl7⟩ := cq_cells (c := c) hX7; clear hX7)
     | (at_builtin; refine wpList_append_mine _ rfl (.tmp 24) (.tmp 26) 24 rfl (fun k => W1.heap.size ≤ k) 3 i0 _ 1 8 Tryz.underlying24 hi0 hz0 hz1 hz2 rfl _ l.length (ints l) rfl (hA.out.own.below ((Below.refl _ _).alloc (Nat.le_refl _) _)) (some ⟨w7.heap.size, 0, none⟩) 1 1 [.int .i64 (i : Int)] rfl rfl (fun e => by cases e) (new1 rfl) (by simp [Value.oneCell']) (by unfold maxLen; omega) (by omega) ?_; intro b9 cap9 w9 hown hfr; have hX := Mr.hid (hA.out.app rfl hown hfr); clear hown hfr))
    go_roundg (gk - 1)
    case measure => omega
    case rel => exact ⟨i + 1, by simp, by omega, by rw [hnx2.out]; exact hX.out⟩
   ·have hnx2 := Mr.hid (show pix (cs.take (i + 1)) 0 = l by rw [hnx.out, if_neg hct, List.append_nil])
    by_cases ho : obj c.op = 0
    ·have hct1 : (obj c.op != 0) = false := by simp [ho]
     rw [hct1] at CT
     replace CT := Mr.hid CT
     replace ho := Mr.hid ho
     replace hct := Mr.hid hct
     go_wp2_with (go_at_call 23; refine (CT.out _).mono ?_; clear CT; rintro e w7 ⟨rfl, hB7⟩; replace hA := Mr.hid (hA.out.below hB7); have hX7 := (hB7.block _ kl).trans hX5.out; clear k0 k1 k2 k3 k4 k5 k6 k7 k8 hB7; obtain ⟨k0, k1, k2, k3, k4, k5, k6, k7, k8, kl7⟩ := cq_cells (c := c) hX7; clear hX7)
     go_roundg (gk - 1)
     case measure => omega
     case rel => exact ⟨i + 1, by simp, by omega, by rw [hnx2.out]; exact hA.out⟩
    ·have hpt : c.pt = -1 := Classical.byContradiction (fun h => hct ⟨ho, h⟩)
     have hct1 : (obj c.op != 0) = true := by simp [ho]
     have hct2 : (c.pt != -1) = false := by simp [hpt]
     rw [hct1] at CT
     replace CT := Mr.hid CT
     replace ho := Mr.hid ho
     replace hct := Mr.hid hct
     replace hpt := Mr.hid hpt
     go_wp2_with (go_at_call 23; refine (CT.out _).mono ?_; clear CT; rintro e w7 ⟨rfl, hB7⟩; replace hA := Mr.hid (hA.out.below hB7); have hX7 := (hB7.block _ kl).trans hX5.out; clear k0 k1 k2 k3 k4 k5 k6 k7 k8 hB7; obtain ⟨k0, k1, k2, k3, k4, k5, k6, k7, k8, kl7⟩ := cq_cells (c := c) hX7; clear hX7)
     go_roundg (gk - 1)
     case measure => omega
     case rel => exact ⟨i + 1, by simp, by omega, by rw [hnx2.out]; exact hA.out⟩
  ·have hin : i = cs.length := by have := hn.out; omega
   rw [hin, List.take_length] at hA
   have dl : decide ((i : Int) < (n : Int)) = false := decide_eq_false (by omega)
   have hin2 : ∀ y ∈ pix cs 0, 0 ≤ y ∧ y < (cs.length : Int) := fun y hy => by
    obtain ⟨j, d, hd, h1, _⟩ := (mem_pix cs 0 y).1 hy
    have := (List.getElem?_eq_some_iff.1 hd).1
    rw [h1]; constructor <;> omega
   have hpl : (pix cs 0).length ≤ n := by rw [hn.out]; exact pix_len _ _
   have SF := sortF_own hA.own (by rw [← hn.out]; exact hBX.out _ hA.bel) (Nat.lt_of_lt_of_le hbl hA.bel.size) (hv1.out.below hA.bel) (by omega) (fun k hk _ => by have := hB1.out.size; omega) hin2 (by omega)
   obtain ⟨u, cu, rfl, hcu, hcm⟩ := hA.own.form
   obtain ⟨m, hm⟩ : ∃ m, m = (pix cs 0).length := ⟨_, rfl⟩
   rw [← hm] at SF ⊢
   have B := Mr.hid (hB1.out.trans (hA.bel.mono hB1.out.size))
   have hsz2 := Mr.hid hA.bel.size
   clear hA
   replace SF := Mr.hid SF
   replace hm := Mr.hid hm
   go_wp2_with (go_at_call 24; refine SF.out.mono ?_; clear SF; rintro e w2 ⟨rfl, hf2, l', hP, hU, hS2⟩; have hB2 : Below W.heap.size W w2 := ⟨hf2.os.trans B.out.os, hf2.tape.trans B.out.tape, hf2.output.trans B.out.output, Nat.le_trans B.out.size hf2.size, fun k hk => (hf2.block k (Nat.lt_of_lt_of_le hk B.out.size) (by omega)).trans (B.out.block k hk)⟩; clear hf2; replace hB2 := Mr.hid hB2; replace hS2 := Mr.hid hS2; replace hP := Mr.hid hP; replace hU := Mr.hid hU)
   refine bodyPost_ret (v := .tuple #[.slice u m cu, .int .i64 0]) (by simp [results, Tryz.results14, go_sem]) rfl ?_
   exact ⟨_, l', rfl, hS2.out.mono (fun k hk => by omega), hP.out, hU.out, hB2.out⟩
end
def PtL (cs : List Cq) (l : List Int) : Prop := l.Perm (pix cs 0) ∧ l.Pairwise (fun a b => ptAt cs a ≤ ptAt cs b)
open Classical in
noncomputable def pL (cs : List Cq) : List Int := if h : MayC cs ∧ ∃ l, PtL cs l then Classical.choose h.2 else []
open Classical in
noncomputable def pE (cs : List Cq) : Int := if MayC cs then 0 else 120
theorem pL_eq {cs : List Cq} (hm : MayC cs) {l : List Int} (h : PtL cs l) : pL cs = l := by
 have hx : MayC cs ∧ ∃ l, PtL cs l := ⟨hm, l, h⟩
 unfold pL
 rw [dif_pos hx]
 have hc := Classical.choose_spec hx.2
 refine sorted_one (ptAt cs) (hc.1.trans h.1.symm) hc.2 h.2 (fun x y hx hy e => ?_)
 exact pt_inj ((may_doc cs).1 hm).2.2 x y (hc.1.mem_iff.1 hx) (hc.1.mem_iff.1 hy) e
theorem pL_len (cs : List Cq) : (pL cs).length ≤ cs.length := by
 unfold pL
 split
 ·rename_i h
  have hc := Classical.choose_spec h.2
  rw [hc.1.length_eq]; exact pix_len _ _
 ·simp
theorem points_one {W : World} {T : Nat → Prop} {v : Value} {cs : List Cq} (hv : Sl W T 9 v cs.length (cqs cs)) (hsm : cs.length * 72 ≤ 281474976710656) :
  Calls Tryz.prog 14 #[v] W fun e w' => ∃ vr, e = .returned (.tuple #[vr, .int .i64 (pE cs)]) ∧ Md.Own w' (fun k => W.heap.size ≤ k) 3 1 vr (pL cs).length (ints (pL cs)) ∧ Below W.heap.size W w' := by
 by_cases hm : MayC cs
 ·refine (points_own hv hsm hm).mono ?_
  rintro e w' ⟨u, l, rfl, hO, h1, h2, hB⟩
  refine ⟨u, by rw [pE, if_pos hm], ?_, hB⟩
  rw [pL_eq hm ⟨h1, h2⟩]
  exact hO
 ·refine (points_no hv hsm hm).mono ?_
  rintro e w' ⟨rfl, hB⟩
  refine ⟨_, by rw [pE, if_neg hm], ?_, hB⟩
  have : pL cs = [] := by unfold pL; rw [dif_neg (fun h => hm h.1)]
  rw [this]
  exact Md.Own.zero _ _ _ _ _
end Go.Proofs.YtnbibkohgppjnaaGreat.Wt
namespace Go.Proofs.YtnbibkohgppjnaaGreat.Ws
open Go.RowKit Mr
attribute [local go_sem] Oper.semAt_some
section
variable {P : Program}
def Keeps (B : Nat) (I : World → Prop) : Prop := ∀ W l o o', I W → B ≤ l → W.heap[l]? = some o → o.isCells = false → I (W.putObj l o')
def Grows (I : World → Prop) : Prop := ∀ W W', I W → Below W.heap.size W W' → I W'
def HandsR (n : Nat) (P : Program) (gf : Nat) (lb : Array Value) (N : Nat) (ok : Nat → Bool) (R : Nat → Array Value → World → Prop) (Kn : World → Prop) : Prop :=
 ∀ (l : Nat) (C : Nat → World → Prop) (X : World → Prop) (W : World), (∀ k, Grows (C k)) → Grows X → (∀ k W1, C k W1 → Kn W1) → (∀ k W1, k < N → ok k = false → C k W1 → C (k + 1) W1) → C 0 W →
  (∀ k args W1, k < N → ok k = true → R k args W1 → C k W1 → YieldAt Fence.wide (n - 1) P l args W1 fun e W' => (e = .returned (.bool true) ∧ C (k + 1) W') ∨ (e = .returned (.bool false) ∧ X W')) →
  CallsIn Fence.wide n P gf (#[.func (.yield l) #[] #[]] ++ lb) W fun e W' => (∃ v, e = .returned v) ∧ (C N W' ∨ X W')
theorem range_r {n : Nat} {g : Operand} {ps : Array Tmp} {assign body : Code} {Q : Exit → Act → World → Prop} {a : Act} {w : World} {gf : Nat} {lb : Array Value} (hg : a.eval g = .func (.func gf) #[] lb) (h1 : 1 ≤ n)
  (eg : ∀ args w, (callFunc gf args).run P w = .ok (.enter gf args) w) {N : Nat} {ok : Nat → Bool} {R : Nat → Array Value → World → Prop} {Kn : World → Prop} (hps : ∀ k args W, R k args W → args.size = ps.size)
  (hseq : HandsR (n - 1) P gf lb N ok R Kn)
  (C : Nat → World → Prop) (hC : ∀ k, Keeps w.heap.size (C k)) (hCg : ∀ k, Grows (C k)) (X : World → Prop) (hX : Keeps w.heap.size X) (hXg : Grows X) (hKn : ∀ k W1, C k W1 → Kn W1) (hskip : ∀ k W1, k < N → ok k = false → C k W1 → C (k + 1) W1) (h0 : C 0 w)
  (Ax : Nat → Act → World → Prop) (hAx : ∀ k a', Keeps w.heap.size (Ax k a'))
  (hassign : ∀ l k args W (K : Act → World → Prop), k < N → ok k = true → R k args W → C k W → (∀ a' W', KeepsFrom w.heap.size W W' → C k W' → Ax k a' W' → K a' W') →
   assign.wpIn (Fence.wide.inRound l) (n - 1 - 1) P (Exit.then K (fun _ _ _ => False)) { tmps := (ps.zip args).foldl (fun t (p, v) => t.setIfInBounds p v) a.tmps, defers := [] } W)
  (hbody : ∀ l k a' W, k < N → ok k = true → C k W → Ax k a' W → w.heap.size ≤ W.heap.size → body.wpIn (Fence.wide.inRound l) (n - 1 - 1) P (fun e _ W' => KeepsFrom w.heap.size W W' ∧ ((e = .normal ∧ C (k + 1) W') ∨ (e = .ret ∧ X W'))) a' W)
  (hdone : ∀ (D : Nat) (W : World), w.heap.size ≤ D → C N W → W.heap[D]? = some (.deferred (some [])) → Q .normal { a with defers := { target := .collected D, args := #[] } :: a.defers } W)
  (hleft : ∀ (D : Nat) (W : World), w.heap.size ≤ D → X W → W.heap[D]? = some (.deferred (some [])) → Code.ret.wpIn Fence.wide n P Q { a with defers := { target := .collected D, args := #[] } :: a.defers } W) :
  (Code.rangeFunc g ps assign body).wpIn Fence.wide n P Q a w := by
 refine wpIn_rangeFunc fun fn hfn => ?_
 obtain ⟨rec, hrec⟩ : ∃ rec : LoopState → Option Code → Loop, rec = fun st pe => { state := st, pending := pe, fn, tmps := a.tmps, params := ps, assign, body, defers := w.heap.size } := ⟨_, rfl⟩
 obtain ⟨W1, hW1⟩ : ∃ W1, (w.alloc (.deferred (some []))).alloc (.loop (rec .ready none)) = W1 := ⟨_, rfl⟩
 have hL1 : W1.heap[w.heap.size + 1]? = some (.loop (rec .ready none)) := by
  have := heap_alloc_new (w.alloc (.deferred (some []))) (.loop (rec .ready none))
  rw [World.size_alloc] at this
  rw [← hW1]; exact this
 have hD1 : W1.heap[w.heap.size]? = some (.deferred (some [])) := by
  rw [← hW1]; exact (Below.heap_alloc _ _ _ (by simp)).trans (heap_alloc_new w _)
 have hB1 : Below w.heap.size w W1 := by rw [← hW1]; exact ((Below.refl _ w).alloc (Nat.le_refl _) _).alloc (by simp) _
 refine ⟨w.heap.size + 1, [{ target := .collected w.heap.size, args := #[] }], W1, { target := .fn (.func gf) lb, args := #[.func (.yield (w.heap.size + 1)) #[] #[]] }, W1, gf, #[.func (.yield (w.heap.size + 1)) #[] #[]] ++ lb, W1, ?_, ?_, fun _ _ => trivial, ?_, fun _ => h1, ?_⟩
 ·rw [← hW1, hrec]; exact run_enterLoop_outer _ _ _ _ _
 ·simp only [resolve, hg]
  simp [go_sem]
 ·simp [invoke, go_sem, eg]
 ·refine (hseq (w.heap.size + 1) (fun k W => C k W ∧ W.heap[w.heap.size + 1]? = some (.loop (rec .ready none)) ∧ W.heap[w.heap.size]? = some (.deferred (some []))) (fun W => X W ∧ W.heap[w.heap.size + 1]? = some (.loop (rec .done (some .ret))) ∧ W.heap[w.heap.size]? = some (.deferred (some []))) W1 ?_ ?_ (fun k W h => hKn k W h.1) (fun k W hk ho h => ⟨hskip k W hk ho h.1, h.2⟩) ⟨hCg 0 _ _ h0 hB1, hL1, hD1⟩ ?_).mono ?_
  ·rintro k Wa Wb ⟨q1, q2, q3⟩ hf
   exact ⟨hCg k _ _ q1 hf, (hf.block _ (Array.getElem?_eq_some_iff.1 q2).1).trans q2, (hf.block _ (Array.getElem?_eq_some_iff.1 q3).1).trans q3⟩
  ·rintro Wa Wb ⟨q1, q2, q3⟩ hf
   exact ⟨hXg _ _ q1 hf, (hf.block _ (Array.getElem?_eq_some_iff.1 q2).1).trans q2, (hf.block _ (Array.getElem?_eq_some_iff.1 q3).1).trans q3⟩
  ·rintro k args W hk ho hR ⟨hi, hl, hD⟩
   have hy := run_yield (P := P) (args := args) hl (by rw [hrec]; exact hps k args W hR)
   rw [hrec] at hy
   refine ⟨fn, _, assign, body, hy, roundIn_of_wpIn hfn ?_⟩
   refine hassign _ k args W _ hk ho hR hi ?_
   intro a' Wa hka hia hax
   have hl' := hka.same _ _ (by omega) hl rfl
   have hD' := hka.same _ _ (Nat.le_refl _) hD rfl
   have hlt := (Array.getElem?_eq_some_iff.1 hl').1
   refine ⟨_, run_beginRound hl' (by rw [hrec]), ?_⟩
   have hl2 : (Wa.putObj (w.heap.size + 1) (.loop { rec .ready none with state := .busy })).heap[w.heap.size + 1]? = some (.loop { rec .ready none with state := .busy }) := World.putObj_heap_same hlt
   have hD2 : (Wa.putObj (w.heap.size + 1) (.loop { rec .ready none with state := .busy })).heap[w.heap.size]? = some (.deferred (some [])) := (World.putObj_heap_other (by omega)).trans hD'
   refine wpIn_mono (hbody _ k a' _ hk ho (hC k _ _ _ _ hia (by omega) hl' rfl) (hAx k a' _ _ _ _ hax (by omega) hl' rfl) (by simp [World.putObj]; omega)) ?_
   rintro e a3 W3 ⟨hk3, ⟨rfl, hi3⟩ | ⟨rfl, hi3⟩⟩
   ·have hl3 := hk3.same _ _ (by omega) hl2 rfl
    have hD3 := hk3.same _ _ (Nat.le_refl _) hD2 rfl
    have he := run_endRound (P := P) none hl3
    refine ⟨_, _, he, .inl ⟨rfl, hC _ _ _ _ _ hi3 (by omega) hl3 rfl, ?_, (World.putObj_heap_other (by omega)).trans hD3⟩⟩
    rw [World.putObj_heap_same (Array.getElem?_eq_some_iff.1 hl3).1, hrec]
    rfl
   ·have hl3 := hk3.same _ _ (by omega) hl2 rfl
    have hD3 := hk3.same _ _ (Nat.le_refl _) hD2 rfl
    have he := run_endRound (P := P) (some .ret) hl3
    refine ⟨_, _, he, .inr ⟨rfl, hX _ _ _ _ hi3 (by omega) hl3 rfl, ?_, (World.putObj_heap_other (by omega)).trans hD3⟩⟩
    rw [World.putObj_heap_same (Array.getElem?_eq_some_iff.1 hl3).1, hrec]
    rfl
  ·rintro e W2 ⟨⟨v, rfl⟩, ⟨hi, hl, hD⟩ | ⟨hi, hl, hD⟩⟩
   ·have he := run_endLoop (P := P) hl (by rw [hrec]; simp)
    refine ⟨none, _, by rw [he, hrec], hdone _ _ (Nat.le_refl _) (hC _ _ _ _ _ hi (by omega) hl rfl) ((World.putObj_heap_other (by omega)).trans hD)⟩
   ·have he := run_endLoop (P := P) hl (by rw [hrec]; simp)
    refine ⟨some .ret, _, by rw [he, hrec], hleft _ _ (Nat.le_refl _) (hX _ _ _ _ hi (by omega) hl rfl) ((World.putObj_heap_other (by omega)).trans hD)⟩
end
end Go.Proofs.YtnbibkohgppjnaaGreat.Ws
namespace Go.Proofs.YtnbibkohgppjnaaGreat.Ws
structure Sp (X : Type) where
 n : Nat
 ok : Nat → X → Nat → Bool
 nx : X → Nat → X
 whl : Nat → Bool
 new : ∀ P x i, ok P x i = true → P.testBit i = false
variable {X : Type}
def room (n P : Nat) : Nat := ((List.range n).filter (fun i => !P.testBit i)).length
def Sp.Go (s : Sp X) : Nat → X → List Nat → Prop
 | P, _, [] => s.whl P = true
 | P, x, i :: l => i < s.n ∧ s.ok P x i = true ∧ s.Go (P ||| 2 ^ i) (s.nx x i) l
def Sp.lst (s : Sp X) : Nat → Nat → X → Option (List Nat)
 | 0, P, _ => if s.whl P then some [] else none
 | f + 1, P, x => if s.whl P then some [] else (List.range s.n).findSome? (fun i => if s.ok P x i then (s.lst f (P ||| 2 ^ i) (s.nx x i)).map (i :: ·) else none)
def Sp.cnt (s : Sp X) : Nat → Nat → X → Nat
 | 0, P, _ => if s.whl P then 1 else 0
 | f + 1, P, x => (if s.whl P then 1 else 0) + ((List.range s.n).map (fun i => if s.ok P x i then s.cnt f (P ||| 2 ^ i) (s.nx x i) else 0)).sum
theorem test_or (P i j : Nat) : (P ||| 2 ^ i).testBit j = (P.testBit j || decide (i = j)) := by rw [Nat.testBit_or, Nat.testBit_two_pow]
theorem room_zero {n P : Nat} (h : room n P = 0) : ∀ i, i < n → P.testBit i = true := by
 intro i hi
 have h1 := List.eq_nil_of_length_eq_zero h
 have h2 := List.filter_eq_nil_iff.1 h1 i (List.mem_range.2 hi)
 simpa using h2
theorem count_flip (n : Nat) (p q : Nat → Bool) (i : Nat) (hi : i < n) (hp : p i = true) (hq : q i = false) (ho : ∀ j, j ≠ i → p j = q j) : ((List.range n).filter q).length + 1 = ((List.range n).filter p).length := by
 induction n with
 | zero => omega
 | succ n ih =>
  rw [List.range_succ, List.filter_append, List.filter_append, List.length_append, List.length_append]
  by_cases e : i = n
  ·subst e
   have : (List.range i).filter q = (List.range i).filter p := List.filter_congr (fun j hj => (ho j (by have := List.mem_range.1 hj; omega)).symm)
   rw [this]
   simp [hp, hq]
  ·have := ih (by omega)
   have h2 := ho n (fun h => e h.symm)
   simp only [List.filter_cons, List.filter_nil, h2]
   omega
theorem room_with {n P i : Nat} (hi : i < n) (h : P.testBit i = false) : room n (P ||| 2 ^ i) + 1 = room n P := by
 unfold room
 refine count_flip n _ _ i hi (by simp [h]) (by simp) (fun j hj => ?_)
 rw [test_or]
 simp [Ne.symm hj]
theorem room_le (n P : Nat) : room n P ≤ n := by
 unfold room
 exact Nat.le_trans (List.length_filter_le _ _) (by simp)
theorem with_lt {n P i : Nat} (hi : i < n) (h : P < 2 ^ n) : P ||| 2 ^ i < 2 ^ n := Nat.or_lt_two_pow h (Nat.pow_lt_pow_right (by omega) hi)
def lxl : List Nat → List Nat → Prop
 | [], _ => True
 | _ :: _, [] => False
 | a :: l, b :: m => a < b ∨ (a = b ∧ lxl l m)
theorem find_least {n : Nat} {g : Nat → Option (List Nat)} {l : List Nat} (h : (List.range n).findSome? g = some l) : ∃ i, i < n ∧ g i = some l ∧ ∀ j, j < i → g j = none := by
 induction n with
 | zero => simp at h
 | succ n ih =>
  rw [List.range_succ, List.findSome?_append] at h
  cases hq : (List.range n).findSome? g with
  | some m =>
   rw [hq] at h
   simp at h
   subst h
   obtain ⟨i, hi, h1, h2⟩ := ih hq
   exact ⟨i, by omega, h1, h2⟩
  | none =>
   rw [hq] at h
   simp at h
   exact ⟨n, by omega, h, fun j hj => List.findSome?_eq_none_iff.1 hq j (List.mem_range.2 hj)⟩
theorem Sp.lst_none (s : Sp X) : ∀ (f P : Nat) (x : X), room s.n P ≤ f → s.lst f P x = none → ∀ m, ¬ s.Go P x m := by
 intro f
 induction f with
 | zero =>
  intro P x hr h m hm
  unfold Sp.lst at h
  split at h
  ·cases h
  ·rename_i hw
   cases m with
   | nil => exact hw hm
   | cons j m =>
    obtain ⟨hj, hok, _⟩ := hm
    have h1 := s.new P x j hok
    rw [room_zero (by omega) j hj] at h1
    cases h1
 | succ f ih =>
  intro P x hr h m hm
  unfold Sp.lst at h
  split at h
  ·cases h
  ·rename_i hw
   cases m with
   | nil => exact hw hm
   | cons j m =>
    obtain ⟨hj, hok, hg⟩ := hm
    have h1 := List.findSome?_eq_none_iff.1 h j (List.mem_range.2 hj)
    simp only [hok, if_true] at h1
    have h2 : s.lst f (P ||| 2 ^ j) (s.nx x j) = none := by
     cases hz : s.lst f (P ||| 2 ^ j) (s.nx x j) with
     | none => rfl
     | some z => simp [hz] at h1
    have hrj := room_with hj (s.new P x j hok)
    exact ih _ _ (by omega) h2 m hg
theorem Sp.lst_some (s : Sp X) : ∀ (f P : Nat) (x : X) (l : List Nat), room s.n P ≤ f → s.lst f P x = some l → s.Go P x l ∧ ∀ m, s.Go P x m → lxl l m := by
 intro f
 induction f with
 | zero =>
  intro P x l hr h
  unfold Sp.lst at h
  split at h
  ·rename_i hw
   cases h
   exact ⟨hw, fun m _ => trivial⟩
  ·cases h
 | succ f ih =>
  intro P x l hr h
  unfold Sp.lst at h
  split at h
  ·rename_i hw
   cases h
   exact ⟨hw, fun m _ => trivial⟩
  ·rename_i hw
   obtain ⟨i, hi, h1, h2⟩ := find_least h
   have hok : s.ok P x i = true := by
    cases hq : s.ok P x i with
    | true => rfl
    | false => simp [hq] at h1
   simp only [hok, if_true] at h1
   cases hq : s.lst f (P ||| 2 ^ i) (s.nx x i) with
   | none => simp [hq] at h1
   | some k =>
    simp [hq] at h1
    subst h1
    have hr' := room_with hi (s.new P x i hok)
    have := ih _ _ k (by omega) hq
    refine ⟨⟨hi, hok, this.1⟩, fun m hm => ?_⟩
    cases m with
    | nil => exact absurd hm (by simpa [Sp.Go] using hw)
    | cons j m =>
     obtain ⟨hj, hok', hg⟩ := hm
     by_cases e : i < j
     ·exact .inl e
     ·by_cases e2 : i = j
      ·subst e2
       exact .inr ⟨rfl, this.2 m hg⟩
      ·exfalso
       have h3 := h2 j (by omega)
       simp only [hok', if_true] at h3
       have h4 : s.lst f (P ||| 2 ^ j) (s.nx x j) = none := by
        cases hz : s.lst f (P ||| 2 ^ j) (s.nx x j) with
        | none => rfl
        | some z => simp [hz] at h3
       have hrj := room_with hj (s.new P x j hok')
       exact absurd hg (s.lst_none f _ _ (by omega) h4 m)
end Go.Proofs.YtnbibkohgppjnaaGreat.Ws
namespace Go.Proofs.YtnbibkohgppjnaaGreat.Wt
open Md
def cq0 : Cq := ⟨0, 0, 0, 0, 0, 0, 0, 0, 0⟩
def callD (cs : List Cq) (x : Int) : Cq := (cs[x.toNat]?).getD cq0
def ordc (cs : List Cq) (o : List Int) : List Cq := o.map (callD cs)
theorem callD_get {cs : List Cq} {j : Nat} {d : Cq} (h : cs[j]? = some d) : callD cs (j : Int) = d := by simp [callD, h]
theorem ordc_len (cs : List Cq) (o : List Int) : (ordc cs o).length = o.length := by simp [ordc]
theorem ordc_get {cs : List Cq} {o : List Int} {k j : Nat} {d : Cq} (hk : o[k]? = some (j : Int)) (hd : cs[j]? = some d) : (ordc cs o)[k]? = some d := by simp [ordc, hk, callD_get hd]
theorem IsOrd.at {cs : List Cq} {o : List Int} (h : IsOrd cs o) {k : Nat} {x : Int} (hx : o[k]? = some x) : ∃ (j : Nat) (d : Cq), x = (j : Int) ∧ cs[j]? = some d ∧ obj d.op ≠ 0 := by
 obtain ⟨h0, c, hc, ho⟩ := h.1.1 k x (List.getElem?_eq_some_iff.1 hx).1 hx
 exact ⟨x.toNat, c, by omega, hc, ho⟩
theorem IsOrd.obj {cs : List Cq} {o : List Int} (h : IsOrd cs o) : ∀ c ∈ ordc cs o, obj c.op ≠ 0 := by
 intro c hc
 obtain ⟨k, hk⟩ := List.getElem?_of_mem hc
 have hl := (List.getElem?_eq_some_iff.1 hk).1
 rw [ordc_len] at hl
 obtain ⟨j, d, hx, hd, ho⟩ := h.at (List.getElem?_eq_getElem hl)
 have := ordc_get (hx ▸ List.getElem?_eq_getElem hl) hd
 rw [hk] at this; cases this; exact ho
theorem pigeons : ∀ (n : Nat) (l : List Int), l.Nodup → (∀ x ∈ l, 0 ≤ x ∧ x < (n : Int)) → l.length ≤ n := by
 intro n
 induction n with
 | zero =>
  intro l _ h
  cases l with
  | nil => simp
  | cons x l => have := h x (by simp); omega
 | succ n ih =>
  intro l hn h
  have h1 := ih (l.erase (n : Int)) (hn.erase _) (fun x hx => by
   have h2 := (hn.mem_erase_iff).1 hx
   have h3 := h x h2.2
   have h4 := h2.1
   omega)
  have h5 := List.length_erase (a := (n : Int)) (l := l)
  split at h5 <;> omega
theorem IsOrd.len {cs : List Cq} {o : List Int} (h : IsOrd cs o) : o.length ≤ cs.length := by
 have hn := h.1.2
 rw [List.take_length] at hn
 refine pigeons cs.length o hn (fun x hx => ?_)
 obtain ⟨k, hk⟩ := List.getElem?_of_mem hx
 obtain ⟨j, d, rfl, hd, _⟩ := h.at hk
 have := (List.getElem?_eq_some_iff.1 hd).1
 constructor <;> omega
def InT (os : List Cq) (n : Nat) : Prop := ∀ i j c d, i < j → j < n → os[i]? = some c → os[j]? = some d → ¬ AhP d c
theorem InT.zero (os : List Cq) : InT os 0 := fun i j c d _ hj => by omega
theorem InT.succ {os : List Cq} {n : Nat} (h : InT os n) {d : Cq} (hd : os[n]? = some d) (hs : ∀ i c, i < n → os[i]? = some c → ¬ AhP d c) : InT os (n + 1) := fun i j c d' hij hj hc hd' => by
 by_cases e : j < n
 ·exact h i j c d' hij e hc hd'
 ·have : j = n := by omega
  subst this; rw [hd] at hd'; cases hd'; exact hs i c hij hc
def Lat (os : List Cq) (n : Nat) (lt : Cq) : Prop := (lt = cq0 ∨ ∃ i, i < n ∧ os[i]? = some lt) ∧ 0 ≤ lt.beg ∧ ∀ i c, i < n → os[i]? = some c → c.beg ≤ lt.beg
theorem Lat.zero (os : List Cq) : Lat os 0 cq0 := ⟨.inl rfl, by simp [cq0], fun i c h => by omega⟩
theorem Lat.keep {os : List Cq} {n : Nat} {lt d : Cq} (h : Lat os n lt) (hd : os[n]? = some d) (hb : ¬ lt.beg < d.beg) : Lat os (n + 1) lt := by
 refine ⟨h.1.imp id (fun ⟨i, hi, e⟩ => ⟨i, by omega, e⟩), h.2.1, fun i c hi hc => ?_⟩
 by_cases e : i < n
 ·exact h.2.2 i c e hc
 ·have : i = n := by omega
  subst this; rw [hd] at hc; cases hc; omega
theorem Lat.next {os : List Cq} {n : Nat} {lt d : Cq} (h : Lat os n lt) (hd : os[n]? = some d) (hb : lt.beg < d.beg) : Lat os (n + 1) d := by
 refine ⟨.inr ⟨n, by omega, hd⟩, by have := h.2.1; omega, fun i c hi hc => ?_⟩
 by_cases e : i < n
 ·have := h.2.2 i c e hc; omega
 ·have : i = n := by omega
  subst this; rw [hd] at hc; cases hc; exact Int.le_refl _
theorem Lat.free {os : List Cq} {n : Nat} {lt d : Cq} (h : Lat os n lt) (ha : ahB d lt = false) : ∀ i c, i < n → os[i]? = some c → ¬ AhP d c := fun i c hi hc hA => by
 have := h.2.2 i c hi hc
 simp [ahB] at ha
 have := ha hA.1
 have := hA.2
 omega
theorem Lat.bad {os : List Cq} {n : Nat} {lt d : Cq} (h : Lat os n lt) (hd : os[n]? = some d) (hf : Fit d) (ha : ahB d lt = true) {m : Nat} (hm : n < m) : ¬ InT os m := fun hI => by
 simp [ahB] at ha
 rcases h.1 with rfl | ⟨i, hi, he⟩
 ·obtain ⟨_, _, ⟨h0, h1, _⟩, _⟩ := hf
  have : cq0.beg = 0 := rfl
  omega
 ·exact hI i n lt d hi hm he hd ha
def plc (n : Nat) (o : List Int) (k : Nat) : Array Value := ((List.range n).map fun (i : Nat) => Value.bool (decide ((i : Int) ∈ o.take k))).toArray
theorem plc_size (n : Nat) (o : List Int) (k : Nat) : (plc n o k).size = n := by simp [plc]
theorem plc_get {n : Nat} (o : List Int) (k : Nat) {i : Nat} (h : i < n) : (plc n o k)[i]? = some (.bool (decide ((i : Int) ∈ o.take k))) := by simp [plc, h]
theorem plc_set {n : Nat} {o : List Int} {k j : Nat} (hk : o[k]? = some (j : Int)) : (plc n o k).setIfInBounds j (.bool true) = plc n o (k + 1) := by
 apply Array.ext
 ·simp [plc_size]
 ·intro i h1 h2
  have hi : i < n := by simpa [plc_size] using h2
  rw [Array.getElem_setIfInBounds (by rw [plc_size]; exact hi)]
  by_cases e : j = i
  ·subst e
   rw [if_pos rfl]
   simp [plc, List.take_add_one, hk]
  ·rw [if_neg e]
   have : ((i : Nat) : Int) ≠ (j : Int) := by omega
   simp [plc, List.take_add_one, hk, this]
end Go.Proofs.YtnbibkohgppjnaaGreat.Wt
