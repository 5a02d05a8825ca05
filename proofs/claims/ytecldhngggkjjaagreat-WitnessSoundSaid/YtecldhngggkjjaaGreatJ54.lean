import Derived.Test.YtecldhngggkjjaaGreatJ10
import Derived.Test.YtecldhngggkjjaaGreatJ13
import Derived.Test.YtecldhngggkjjaaGreatJ16
import Derived.Test.YtecldhngggkjjaaGreatShelfF
import Derived.BigQuiet
import Derived.Test.YtecldhngggkjjaaGreatJ52
import Derived.Deep.LoopGhost
import Derived.Test.YtecldhngggkjjaaGreatJ37
import Derived.Test.YtecldhngggkjjaaGreatJ51
set_option linter.unusedVariables false
set_option linter.unusedSimpArgs false
set_option maxRecDepth 100000
namespace Go.Proofs.YtecldhngggkjjaaGreat.Wt
open Md
end Go.Proofs.YtecldhngggkjjaaGreat.Wt
namespace Go.Proofs.YtecldhngggkjjaaGreat.Wt
open Go.RowKit Mr Md
set_option maxHeartbeats 8000000 in
theorem points1_any {w : World} {b1 bc oc n cap : Nat} (hbox : w.cell? ⟨b1, 0, none⟩ = some (.slice (some ⟨bc, oc, none⟩) n cap)) {x y : Nat} {c d : Cq} (hx : x < n) (hy : y < n) (hc : At9 w bc (oc + x * 9) c) (hd : At9 w bc (oc + y * 9) d) :
  Calls Tryz.prog 36 #[.int .i64 (x : Int), .int .i64 (y : Int), .pointer (some ⟨b1, 0, none⟩)] w fun e w' => e = .returned (.int .i64 (cmpI c.pt d.pt)) ∧ ∃ q, w' = w.drewN q := by
 obtain ⟨hbl, -, -, -, -, -, -, g6, -, -⟩ := hc
 obtain ⟨-, -, -, -, -, -, -, d6, -, -⟩ := hd
 have f1 : (x : Int) < (n : Int) := by omega
 have f2 : (y : Int) < (n : Int) := by omega
 have C := fun w => compare_any c.pt d.pt w
 generalize cmpI c.pt d.pt = r at *
 replace C := Mr.hid C
 go_enter Tryz.func36, Tryz.ntmps36
 go_upto_region 1 with (fail)
 go_quiet ((go_at_call 37; exact Calls.quiet_of_same (C.out _)))
 go_wp2
 go_ret
 exact ⟨rfl, nq, rfl⟩
def encF {n : Nat} (x : Fin n) : Value := .int .i64 (x.val : Int)
def nums {n : Nat} (d : List (Fin n)) : List Int := d.map fun x => (x.val : Int)
theorem nums_of {n : Nat} : ∀ {l : List Int}, (∀ y ∈ l, 0 ≤ y ∧ y < (n : Int)) → ∃ d : List (Fin n), nums d = l := by
 intro l
 induction l with
 | nil => intro _; exact ⟨[], rfl⟩
 | cons y l ih =>
  intro h
  obtain ⟨d, hd⟩ := ih (fun z hz => h z (List.mem_cons_of_mem _ hz))
  have hy := h y (by simp)
  exact ⟨⟨y.toNat, by omega⟩ :: d, by simp [nums] at hd ⊢; exact ⟨by omega, hd⟩⟩
def cfP (cs : List Cq) {n : Nat} (x y : Fin n) : Int := cmpI (ptAt cs (x.val : Int)) (ptAt cs (y.val : Int))
theorem ltOf_cfP (cs : List Cq) {n : Nat} (x y : Fin n) : ltOf (cfP cs) x y = decide (ptAt cs (x.val : Int) < ptAt cs (y.val : Int)) := by
 unfold ltOf cfP; exact cmpI_neg _ _
theorem swo_cfP (cs : List Cq) {n : Nat} : Sort.SWO (ltOf (cfP cs (n := n))) := by
 refine ⟨fun x => ?_, fun x y z h1 h2 => ?_, fun x y z h1 h2 => ?_⟩
 ·rw [ltOf_cfP]; simp
 ·rw [ltOf_cfP] at *; simp at *; omega
 ·rw [ltOf_cfP] at *; simp at *; omega
theorem sort_cell {α : Type} [Inhabited α] (enc : α → Value) {W : World} {blk off m : Nat} {dk : Array α} {os : Array Obj} {p : Addr} (hp : p.block < W.heap.size) (hne : p.block ≠ blk) : (sortWorld enc W blk off m dk os).cell? p = W.cell? p := by
 unfold sortWorld
 rw [Sort.cell?_grow _ _ _ (by simpa using hp)]
 simp [World.cell?, Sort.putRow, Sort.mapBlock, Sort.ahead, Array.getElem?_modify, Ne.symm hne]
theorem sort_at9 {α : Type} [Inhabited α] (enc : α → Value) {W : World} {blk off m : Nat} {dk : Array α} {os : Array Obj} {b o : Nat} {c : Cq} (h : At9 W b o c) (hne : b ≠ blk) : At9 (sortWorld enc W blk off m dk os) b o c := by
 have e := fun k => sort_cell enc (W := W) (blk := blk) (off := off) (m := m) (dk := dk) (os := os) (p := ⟨b, k, none⟩) h.lt hne
 exact ⟨Nat.lt_of_lt_of_le h.lt (by unfold sortWorld; simp), (e _).trans h.c0, (e _).trans h.c1, (e _).trans h.c2, (e _).trans h.c3, (e _).trans h.c4, (e _).trans h.c5, (e _).trans h.c6, (e _).trans h.c7, (e _).trans h.c8⟩
theorem sortF_any {W : World} {S T : Nat → Prop} {u : Value} {l : List Int} {cs : List Cq} {b1 : Nat} {a : Option Addr} {cap : Nat} (hu : Md.Own W S 3 1 u l.length (ints l)) (hbox : W.cell? ⟨b1, 0, none⟩ = some (.slice a cs.length cap)) (hb1 : b1 < W.heap.size) (hv : Sl W T 9 (.slice a cs.length cap) cs.length (cqs cs)) (hS1 : ¬ S b1) (hST : ∀ k, T k → k < W.heap.size → ¬ S k) (hl : ∀ y ∈ l, 0 ≤ y ∧ y < (cs.length : Int)) (hsz : l.length < 4611686018427387904) :
  Calls Tryz.prog 35 #[u, .func (.func 36) #[] #[.pointer (some ⟨b1, 0, none⟩)]] W fun e w' => e = .returned (.tuple #[]) ∧ Fr W w' S ∧ ∃ l' : List Int, l'.Perm l ∧ l'.Pairwise (fun a b => ptAt cs a ≤ ptAt cs b) ∧ Sl w' S 1 u l'.length (ints l') := by
 by_cases h0 : l.length = 0
 ·obtain ⟨au, cu, rfl, hc, _⟩ := hu.form
  have hz : l = [] := List.eq_nil_of_length_eq_zero h0
  subst hz
  refine (Tryz.slices_SortFunc_none (α := Nat) au cu _ W).mono ?_
  rintro e w' ⟨rfl, rfl⟩
  exact ⟨rfl, Fr.refl _ _, [], List.Perm.refl _, List.Pairwise.nil, hu.sl⟩
 ·obtain ⟨g, o, cu, cur, rfl, hc, hm, hSg, hg, hs, hx⟩ := hu.there (by omega)
  obtain ⟨d, rfl⟩ := nums_of hl
  have hlen : (nums d).length = d.length := by simp [nums]
  have hd0 : 0 < d.length := by omega
  haveI : Inhabited (Fin cs.length) := ⟨d[0]⟩
  have hl2 := (Array.getElem?_eq_some_iff.1 hg).1
  have hH : Sort.Holds (encF (n := cs.length)) W g o d.toArray := by
   intro j hj
   have hj' : j < d.length := by simpa using hj
   refine ⟨?_, by simp [World.frozen?, hg]⟩
   have := own_cells hg hx j _ (ints_get (nums d) j (by rw [hlen]; exact hj'))
   rw [this]
   simp [nums, encF, hj']
  have hcmp : CmpLays1 Tryz.prog 36 #[.pointer (some ⟨b1, 0, none⟩)] (encF (n := cs.length)) (cfP cs) g o d.toArray.size W := by
   refine CmpReads.lays ?_
   intro m os dk hdk x y
   obtain ⟨c, hcx⟩ := get_of_lt (cs := cs) x.isLt
   obtain ⟨c', hcy⟩ := get_of_lt (cs := cs) y.isLt
   obtain ⟨bc, oc, e1, A1⟩ := call_at hv hcx
   obtain ⟨bc', oc', e2, A2⟩ := call_at hv hcy
   rw [e1] at e2; cases e2
   subst e1
   have hTb : T bc := by
    obtain ⟨b', o', cap', e, _, hT, _⟩ := hv.there (by have := x.isLt; omega)
    cases e; exact hT
   have hbg : bc ≠ g := fun e => hST bc hTb A1.lt (by rw [e]; exact hSg)
   have hb1g : b1 ≠ g := fun e => hS1 (by rw [e]; exact hSg)
   have hb := (sort_cell (encF (n := cs.length)) (W := W) (blk := g) (off := o) (m := m) (dk := dk) (os := os) (p := ⟨b1, 0, none⟩) hb1 hb1g).trans hbox
   have := points1_any hb x.isLt y.isLt (sort_at9 (encF (n := cs.length)) A1 hbg (off := o) (m := m) (dk := dk) (os := os)) (sort_at9 (encF (n := cs.length)) A2 hbg (off := o) (m := m) (dk := dk) (os := os))
   rw [← ptAt_get hcx, ← ptAt_get hcy] at this
   exact this
  have hO : OneCell (encF (n := cs.length)) := fun x => rfl
  have eg : ∀ args w, (callFunc 36 args).run Tryz.prog w = .ok (.enter 36 args) w := enters_of Tryz.func36 (by kernel_rfl) rfl
  have := Tryz.slices_SortFunc (encF (n := cs.length)) hO (cfP cs) (swo_cfP cs) 36 #[.pointer (some ⟨b1, 0, none⟩)] g o cu d.toArray W eg hcmp hH hl2 (by simpa [nums] using hsz)
  rw [show d.toArray.size = (nums d).length from by simp [nums]] at this
  refine this.mono ?_
  rintro e w' ⟨rfl, d', n, os, hp, hsd, rfl⟩
  have hsz' : d'.size = d.length := by have := hp.1; simpa using this
  have hperm : d'.toList.Perm d := by
   have h9 : (List.take d.length d'.toList).Perm d := by
    have := hp.2.2
    simpa [nums, hsz', Array.extract_size] using this
   rwa [List.take_of_length_le (by simp [hsz'])] at h9
  refine ⟨rfl, ⟨rfl, rfl, rfl, by unfold sortWorld; simp, fun k hk hne => ?_⟩, nums d'.toList, hperm.map _, ?_, ?_⟩
  ·unfold sortWorld
   rw [Sort.heap_grow_old _ _ (by simpa using hk)]
   have : g ≠ k := fun e => hne (by rw [← e]; exact hSg)
   simp [Sort.putRow, Sort.mapBlock, Sort.ahead, Array.getElem?_modify, this]
  ·unfold nums
   rw [List.pairwise_map, List.pairwise_iff_getElem]
   intro i j hi hj hij
   have h1 := hsd i j (Nat.zero_le _) hij (by simp at hj; rw [hlen]; omega)
   rw [ltOf_cfP] at h1
   simp at hi hj
   simp [hi, hj] at h1 ⊢
   omega
  ·have el : (nums d'.toList).length = (nums d).length := by simp [nums, hsz']
   refine ⟨by simp [ints], _, cu, by rw [el], by rw [el]; exact hc, .inr ⟨g, o, rfl, hSg, by unfold sortWorld; simp; omega, fun j u hu => ?_⟩⟩
   have hj : j < d'.size := by have := (List.getElem?_eq_some_iff.1 hu).1; simpa [ints, nums] using this
   unfold sortWorld
   rw [Sort.cell?_grow _ _ _ (by simpa using hl2)]
   have := Sort.cell?_putRow (encF (n := cs.length)) (Sort.ahead W n) g o d.toArray d' hH (by simpa using hsz') j hj
   rw [this]
   simp [ints, nums, encF, hj] at hu ⊢
   rw [← hu]
end Go.Proofs.YtecldhngggkjjaaGreat.Wt
namespace Go.Proofs.YtecldhngggkjjaaGreat.Wt
open Go.RowKit Mr Md
structure Nw (W w : World) (u : Value) (l : List Int) : Prop where
 bel : Below W.heap.size W w
 own : Md.Own w (fun k => W.heap.size ≤ k) 3 1 u l.length (ints l)
theorem Nw.below {W w w' : World} {u : Value} {l : List Int} (h : Nw W w u l) (hB : Below w.heap.size w w') : Nw W w' u l := ⟨h.bel.trans (hB.mono h.bel.size), h.own.below hB⟩
theorem Nw.app {W w w1 w2 : World} {u u' : Value} {l : List Int} {x : Int} {o : Obj} (h : Nw W w u l) (h1 : w1 = w.alloc o) (ho : Md.Own w2 (fun k => W.heap.size ≤ k ∨ k = w1.heap.size) 3 1 u' (l.length + 1) (ints l ++ [.int .i64 x])) (hf : Fr w1 w2 (fun k => W.heap.size ≤ k)) : Nw W w2 u' (l ++ [x]) := by
 have B1 : Below W.heap.size W w1 := by subst h1; exact h.bel.alloc h.bel.size _
 have e : ints l ++ [Value.int .i64 x] = ints (l ++ [x]) := by simp [ints]
 rw [e] at ho
 refine ⟨⟨hf.os.trans B1.os, hf.tape.trans B1.tape, hf.output.trans B1.output, Nat.le_trans B1.size hf.size, fun k hk => (hf.block k (Nat.lt_of_lt_of_le hk B1.size) (by omega)).trans (B1.block k hk)⟩, ?_⟩
 rw [List.length_append]
 exact ho.mono (fun k hk => by have := B1.size; omega)
theorem Nw.cell {W w : World} {g o n cap : Nat} {l : List Int} (h : Nw W w (.slice (some ⟨g, o, none⟩) n cap) l) {k : Nat} {x : Int} (hx : l[k]? = some x) : w.cell? ⟨g, o + k, none⟩ = some (.int .i64 x) ∧ w.frozen? ⟨g, o + k, none⟩ = false ∧ g < w.heap.size := by
 have hk := (List.getElem?_eq_some_iff.1 hx).1
 obtain ⟨g', o', cap', cur, e, _, _, hS, hg, hs, hxx⟩ := h.own.there (by omega)
 cases e
 exact ⟨own_cells hg hxx k _ (by rw [ints, List.getElem?_map, hx]; rfl), by simp [World.frozen?, hg], (Array.getElem?_eq_some_iff.1 hg).1⟩
theorem Nw.len {W w : World} {a : Option Addr} {n cap : Nat} {l : List Int} (h : Nw W w (.slice a n cap) l) : l.length = n := by
 obtain ⟨_, _, e, _⟩ := h.own.form; cases e; rfl
section
variable {W : World} {T : Nat → Prop} {v : Value} {cs : List Cq}
end
end Go.Proofs.YtecldhngggkjjaaGreat.Wt
namespace Go.Proofs.YtecldhngggkjjaaGreat.Wt
open Go.RowKit Mr Md
theorem sl_low {W : World} {T : Nat → Prop} {size n : Nat} {v : Value} {xs : List Value} (h : Sl W T size v n xs) : Sl W (fun k => k < W.heap.size) size v n xs := by
 obtain ⟨h1, a, cap, hv, hc, h2⟩ := h
 refine ⟨h1, a, cap, hv, hc, h2.imp id ?_⟩
 rintro ⟨b, o, ha, _, hl, hr⟩
 exact ⟨b, o, ha, hl, hl, hr⟩
section
variable {W : World} {T : Nat → Prop} {v : Value} {cs : List Cq}
set_option maxHeartbeats 16000000 in
theorem points_any (hv : Sl W T 9 v cs.length (cqs cs)) (hsm : cs.length * 72 ≤ 281474976710656) (hm : MayC cs) :
  Calls Tryz.prog 21 #[v] W fun e w' => ∃ u l, e = .returned (.tuple #[u, .int .i64 0]) ∧ Sl w' (fun k => W.heap.size ≤ k) 1 u l.length (ints l) ∧ l.Perm (pix cs 0) ∧ l.Pairwise (fun a b => ptAt cs a ≤ ptAt cs b) ∧ Below W.heap.size W w' := by
 have PM := fun o => may_any (hv.below ((Below.refl _ _).alloc (Nat.le_refl _) o)) hsm
 rw [mayB_true hm] at PM
 obtain ⟨i0, hi0, hz0, hz1, hz2⟩ := parts_of wt_int
 obtain ⟨a, cap, rfl, hcap⟩ := hv.form
 have hv1 := sl_low hv
 obtain ⟨n, hn⟩ : ∃ n, n = cs.length := ⟨_, rfl⟩
 rw [← hn] at hsm hcap PM ⊢
 replace hn := Mr.hid hn
 replace hv := Mr.hid hv1
 clear hv1 hm
 replace PM := Mr.hid PM
 go_enter Tryz.func21, Tryz.ntmps21
 go_wp2_with (go_at_call 19; refine (PM.out _).mono ?_; clear PM; rintro e W1 ⟨rfl, hB1⟩; have hbx : W1.cell? ⟨W.heap.size, 0, none⟩ = some (.slice a n cap) := (by rw [hB1.cell (p := ⟨W.heap.size, 0, none⟩) (by simp)]; simp); have hbl : W.heap.size < W1.heap.size := Nat.lt_of_lt_of_le (by simp) hB1.size; replace hB1 : Below W.heap.size W W1 := ((Below.refl _ _).alloc (Nat.le_refl _) _).trans (hB1.mono (by simp)); replace hB1 := Mr.hid hB1)
 have hv1 := Mr.hid (hv.out.below hB1.out)
 have hBX := Mr.hid (fun w (hB : Below W1.heap.size W1 w) => (hB.cell (p := ⟨W.heap.size, 0, none⟩) hbl).trans hbx)
 go_loopg [4, 12] n (fun k s4 s12 wr => ∃ i : Nat, s12 = .int .i64 (i : Int) ∧ i + k = n ∧ Nw W1 wr s4 (pix (cs.take i) 0))
 case atStart => exact ⟨0, rfl, by omega, Below.refl _ _, Md.Own.zero _ _ _ _ _⟩
 case round =>
  clear hbx
  obtain ⟨i, rfl, hi, hA⟩ := hrel
  by_cases hlt : i < n
  ·obtain ⟨c, hci⟩ := get_of_lt (cs := cs) (i := i) (by have := hn.out; omega)
   obtain ⟨bc, oc, rfl, A9⟩ := call_at (hv1.out.below hA.bel) hci
   obtain ⟨u, cu, rfl, hcu, hcm⟩ := hA.own.form
   obtain ⟨l, hl⟩ : ∃ l, l = pix (cs.take i) 0 := ⟨_, rfl⟩
   rw [← hl] at hA hcu ⊢
   have hll : l.length ≤ i := by rw [hl]; exact Nat.le_trans (pix_len _ _) (by simp; omega)
   have hnx := pix_take cs i c hci
   rw [← hl] at hnx
   have hbx : ∀ w1, w1 = wr.alloc (cqO c) → w1.heap[wr.heap.size]? = some (cqO c) ∧ Nw W1 w1 (.slice u l.length cu) l := by rintro w1 rfl; exact ⟨new_at _ _ _ rfl, hA.below ((Below.refl _ _).alloc (Nat.le_refl _) _)⟩
   obtain ⟨hbc, g0, g1, g2, g3, g4, g5, g6, g7, g8⟩ := A9
   have hlI : (i : Int) < (n : Int) := by omega
   have hw1 : IntKind.i64.wrap ((i : Int) + 1) = (i : Int) + 1 := i64x _ (by omega) (by omega)
   have CT := fun w => counts_any c w
   unfold Cq.val at CT
   clear hA hl
   replace hbx := Mr.hid hbx
   replace hnx := Mr.hid hnx
   replace hci := Mr.hid hci
   go_upto_region 7 with (fail)
   obtain ⟨hX5, hA⟩ := hbx.out _ rfl
   unfold cqO at hX5 hA
   clear hbx g0 g1 g2 g3 g4 g5 g6 g7 g8 hbc
   generalize (wr.alloc (Obj.cells #[.int .i64 c.th, .int .i64 c.op, .int .i64 c.arg, .int .i64 c.data, .int .i64 c.beg, .int .i64 c.fin, .int .i64 c.pt, .int .i64 c.ak, .int .i64 c.av] 30 (0, 0))) = w5 at *
   generalize wr.heap.size = bx at *
   clear wr
   obtain ⟨k0, k1, k2, k3, k4, k5, k6, k7, k8, kl⟩ := cq_cells (c := c) hX5
   replace hX5 := Mr.hid hX5
   replace hA := Mr.hid hA
   by_cases hct : obj c.op ≠ 0 ∧ c.pt ≠ -1
   ·have hct1 : (obj c.op != 0) = true := by simp [hct.1]
    have hct2 : (c.pt != -1) = true := by simp [hct.2]
    rw [hct1] at CT
    have hnx2 := Mr.hid (show pix (cs.take (i + 1)) 0 = l ++ [(i : Int)] by rw [hnx.out, if_pos hct])
    replace hct := Mr.hid hct
    replace CT := Mr.hid CT
    go_wp2_with (first
     | (go_at_call 34; refine (CT.out _).mono ?_; clear CT; rintro e w7 ⟨rfl, hB7⟩; replace hA := Mr.hid (hA.out.below hB7); have hX7 := (hB7.block _ kl).trans hX5.out; clear k0 k1 k2 k3 k4 k5 k6 k7 k8 hB7; obtain ⟨k0, k1, k2, k3, k4, k5, k6, k7, k8, kl7⟩ := cq_cells (c := c) hX7; clear hX7)
     | (at_builtin; refine wpList_append_mine _ rfl (.tmp 24) (.tmp 26) 31 rfl (fun k => W1.heap.size ≤ k) 3 i0 _ 1 8 Tryz.underlying31 hi0 hz0 hz1 hz2 rfl _ l.length (ints l) rfl (hA.out.own.below ((Below.refl _ _).alloc (Nat.le_refl _) _)) (some ⟨w7.heap.size, 0, none⟩) 1 1 [.int .i64 (i : Int)] rfl rfl (fun e => by cases e) (new1 rfl) (by simp [Value.oneCell']) (by unfold maxLen; omega) (by omega) ?_; intro b9 cap9 w9 hown hfr; have hX := Mr.hid (hA.out.app rfl hown hfr); clear hown hfr))
    go_roundg (gk - 1)
    case measure => omega
    case rel => exact ⟨i + 1, by simp, by omega, by rw [hnx2.out]; exact hX.out⟩
   ·have hnx2 := Mr.hid (show pix (cs.take (i + 1)) 0 = l by rw [hnx.out, if_neg hct, List.append_nil])
    by_cases ho : obj c.op = 0
    ·have hct1 : (obj c.op != 0) = false := by simp [ho]
     rw [hct1] at CT
     replace CT := Mr.hid CT
     replace ho := Mr.hid ho
     replace hct := Mr.hid hct
     go_wp2_with (go_at_call 34; refine (CT.out _).mono ?_; clear CT; rintro e w7 ⟨rfl, hB7⟩; replace hA := Mr.hid (hA.out.below hB7); have hX7 := (hB7.block _ kl).trans hX5.out; clear k0 k1 k2 k3 k4 k5 k6 k7 k8 hB7; obtain ⟨k0, k1, k2, k3, k4, k5, k6, k7, k8, kl7⟩ := cq_cells (c := c) hX7; clear hX7)
     go_roundg (gk - 1)
     case measure => omega
     case rel => exact ⟨i + 1, by simp, by omega, by rw [hnx2.out]; exact hA.out⟩
    ·have hpt : c.pt = -1 := Classical.byContradiction (fun h => hct ⟨ho, h⟩)
     have hct1 : (obj c.op != 0) = true := by simp [ho]
     have hct2 : (c.pt != -1) = false := by simp [hpt]
     rw [hct1] at CT
     replace CT := Mr.hid CT
     replace ho := Mr.hid ho
     replace hct := Mr.hid hct
     replace hpt := Mr.hid hpt
     go_wp2_with (go_at_call 34; refine (CT.out _).mono ?_; clear CT; rintro e w7 ⟨rfl, hB7⟩; replace hA := Mr.hid (hA.out.below hB7); have hX7 := (hB7.block _ kl).trans hX5.out; clear k0 k1 k2 k3 k4 k5 k6 k7 k8 hB7; obtain ⟨k0, k1, k2, k3, k4, k5, k6, k7, k8, kl7⟩ := cq_cells (c := c) hX7; clear hX7)
     go_roundg (gk - 1)
     case measure => omega
     case rel => exact ⟨i + 1, by simp, by omega, by rw [hnx2.out]; exact hA.out⟩
  ·have hin : i = cs.length := by have := hn.out; omega
   rw [hin, List.take_length] at hA
   have dl : decide ((i : Int) < (n : Int)) = false := decide_eq_false (by omega)
   have hin2 : ∀ y ∈ pix cs 0, 0 ≤ y ∧ y < (cs.length : Int) := fun y hy => by
    obtain ⟨j, d, hd, h1, _⟩ := (mem_pix cs 0 y).1 hy
    have := (List.getElem?_eq_some_iff.1 hd).1
    rw [h1]; constructor <;> omega
   have hpl : (pix cs 0).length ≤ n := by rw [hn.out]; exact pix_len _ _
   have SF := sortF_any hA.own (by rw [← hn.out]; exact hBX.out _ hA.bel) (Nat.lt_of_lt_of_le hbl hA.bel.size) (hv1.out.below hA.bel) (by omega) (fun k hk _ => by have := hB1.out.size; omega) hin2 (by omega)
   obtain ⟨u, cu, rfl, hcu, hcm⟩ := hA.own.form
   obtain ⟨m, hm⟩ : ∃ m, m = (pix cs 0).length := ⟨_, rfl⟩
   rw [← hm] at SF ⊢
   have B := Mr.hid (hB1.out.trans (hA.bel.mono hB1.out.size))
   have hsz2 := Mr.hid hA.bel.size
   clear hA
   replace SF := Mr.hid SF
   replace hm := Mr.hid hm
   go_wp2_with (go_at_call 35; refine SF.out.mono ?_; clear SF; rintro e w2 ⟨rfl, hf2, l', hP, hU, hS2⟩; have hB2 : Below W.heap.size W w2 := ⟨hf2.os.trans B.out.os, hf2.tape.trans B.out.tape, hf2.output.trans B.out.output, Nat.le_trans B.out.size hf2.size, fun k hk => (hf2.block k (Nat.lt_of_lt_of_le hk B.out.size) (by omega)).trans (B.out.block k hk)⟩; clear hf2; replace hB2 := Mr.hid hB2; replace hS2 := Mr.hid hS2; replace hP := Mr.hid hP; replace hU := Mr.hid hU)
   refine bodyPost_ret (v := .tuple #[.slice u m cu, .int .i64 0]) (by simp [results, Tryz.results21, go_sem]) rfl ?_
   exact ⟨_, l', rfl, hS2.out.mono (fun k hk => by omega), hP.out, hU.out, hB2.out⟩
end
end Go.Proofs.YtecldhngggkjjaaGreat.Wt
namespace Go.Proofs.YtecldhngggkjjaaGreat.Ws
open Go.RowKit Mr Md
theorem rs_oks {cs : List Cq} {o : List Int} {x : Ct} (h : Wt.Rs cs o 0 x) : Oks cs o := by
 generalize hz : (0 : Int) = z at h
 cases h with
 | ok h1 h2 h3 h4 => exact ⟨h2, h3, h4⟩
 | calls _ => omega
 | order _ _ => omega
 | early _ _ _ => omega
 | answer _ _ _ _ => omega
theorem src_no {cs : List Cq} (h : srcB cs = false) : errA cs ≠ 0 := by
 unfold srcB at h
 unfold errA
 by_cases h1 : Wt.mayB cs = false
 ·simp [h1]
 ·have h2 : Wt.mayB cs = true := by simpa using h1
  rw [h2] at h
  simp at h
  simp [h2, h]
theorem pix_len (cs : List Cq) : ∀ i, (Wt.pix cs i).length ≤ cs.length := by
 induction cs with
 | nil => intro i; simp [Wt.pix]
 | cons c cs ih => intro i; have := ih (i + 1); simp only [Wt.pix, List.length_append, List.length_cons]; split <;> simp <;> omega
set_option maxHeartbeats 16000000 in
theorem law_sound (v : Value) (cs : List Cq) (W : World) (hv : Sl W (fun _ => True) 9 v cs.length (cqs cs)) (hsm : cs.length * 72 ≤ 140737488351232) (hwf : ∀ c ∈ cs, WfC c) :
  Calls Tryz.prog 8 #[v] W fun e w' => e = .returned (.bool true) ∧ Below W.heap.size W w' := by
 have AW := Mr.hid (awake_any W)
 have SR := Mr.hid (fun (w' : World) (hB : Below W.heap.size W w') => searched_any (hv.below hB) (by omega : cs.length * 72 ≤ 140737488355328))
 have FN := Mr.hid (fun (w' : World) (hB : Below W.heap.size W w') => Find_any (hv.below hB) (by omega) hwf)
 have NN := Mr.hid Wt.num_any
 cases hsB : srcB cs with
 | false =>
  rw [hsB] at SR
  have hne := src_no hsB
  have hd : (errA cs == 0) = false := by simp [hne]
  obtain ⟨a, cap, rfl, hcap⟩ := hv.form
  replace hv := Mr.hid hv
  generalize cs.length = n at *
  go_enter Tryz.func8, Tryz.ntmps8
  go_upto_region 3 with (go_at_call 9; refine AW.out.mono ?_; rintro e w1 ⟨rfl, hB1⟩)
  go_upto_region 4 with (go_at_call 10; refine (SR.out _ hB1).mono ?_; rintro e w2 ⟨rfl, hB2⟩; have hB12 := hB1.trans (hB2.mono hB1.size))
  have FNw := Mr.hid (FN.out _ hB12)
  go_wp2_with (first
   | (go_at_call 12; refine FNw.out.mono ?_; rintro e w3 ⟨hB3, ⟨_, rfl⟩ | ⟨h, _⟩ | ⟨h, _⟩⟩; rotate_left; (· exact absurd h hne); (· exact absurd h hne))
   | (go_at_call 14; refine (NN.out _ _).mono ?_; rintro e w' ⟨rfl, rfl⟩))
  go_ret
  refine ⟨?_, hB12.trans (hB3.mono hB12.size)⟩
  show Ending.returned (Value.bool (errA cs != 0)) = _
  rw [show (errA cs != 0) = true by simp [hne]]
 | true =>
  rw [hsB] at SR
  obtain ⟨hE, hmB, hMay⟩ := src_err' hsB
  have hfit := scs_fit hmB
  have FD := Mr.hid (fun (w' : World) (hB : Below W.heap.size W w') => found_any (hv.below hB) (by omega) hwf hsB)
  have PT := Mr.hid (fun (w' : World) (hB : Below W.heap.size W w') => Wt.points_any (hv.below hB) (by omega) hMay)
  have CK := Mr.hid (fun (p : List Int) (code : Int) (x : Ct) (h : Wt.Rs cs p code x) (w' : World) (hB : Below W.heap.size W w') (u : Value) (hu : Sl w' (fun _ => True) 1 u p.length (ints p)) (hp : p.length * 8 ≤ 281474976710656) => Wt.check_any h (hv.below hB) hu (by omega) hp)
  have hpl := pix_len cs 0
  obtain ⟨a, cap, rfl, hcap⟩ := hv.form
  replace hv := Mr.hid hv
  have hcs : cs.length * 8 ≤ 281474976710656 := by omega
  generalize hn : cs.length = n at *
  clear hn
  go_enter Tryz.func8, Tryz.ntmps8
  go_upto_region 3 with (go_at_call 9; refine AW.out.mono ?_; rintro e w1 ⟨rfl, hB1⟩)
  go_upto_region 6 with (go_at_call 10; refine (SR.out _ hB1).mono ?_; rintro e w2 ⟨rfl, hB2⟩; have hB12 := hB1.trans (hB2.mono hB1.size))
  have FDw := Mr.hid (FD.out _ hB12)
  clear AW SR FN FD hB1 hB2
  go_upto_region 7 with (go_at_call 16; refine FDw.out.mono ?_; rintro e w3 ⟨rfl, hB3⟩)
  have hB13 := hB12.trans (hB3.mono hB12.size)
  have PTw := Mr.hid (PT.out _ hB13)
  clear PT hB12 hB3
  go_upto_region 8 with (go_at_call 21; refine PTw.out.mono ?_; rintro e w4 ⟨u, p, rfl, hSp, hPp, hUp, hB4⟩; obtain ⟨au, cu, rfl, hcu⟩ := hSp.form)
  have hB14 := hB13.trans (hB4.mono hB13.size)
  have hpl2 : p.length ≤ n := by rw [hPp.length_eq]; exact hpl
  obtain ⟨code, x, hRs⟩ := Wt.Rs.ex cs p
  have CKw := Mr.hid (CK.out p code x hRs _ hB14 _ (Sl.mono hSp (fun _ _ => trivial)) (by omega))
  cases hF : fndA cs with
  | some l =>
   clear hPp hUp hSp hRs
   go_wp2_with (go_at_call 14; refine (NN.out _ _).mono ?_; rintro e w' ⟨rfl, rfl⟩)
   go_ret
   exact ⟨rfl, hB14⟩
  | none =>
   have hlm : (spc (scs cs)).lm 0 ct0 = none := by
    rw [fndA] at hF
    cases hq : (spc (scs cs)).lm 0 ct0 with
    | none => rfl
    | some l => rw [hq] at hF; cases hF
   have hcd : (code == 0) = false := by
    rw [beq_eq_false_iff_ne]
    rintro rfl
    exact find_none hfit hlm p (rs_oks hRs)
   clear hPp hUp hSp hRs
   go_wp2_with (first
    | (go_at_call 14; refine (NN.out _ _).mono ?_; rintro e w' ⟨rfl, rfl⟩)
    | (go_at_call 15; refine CKw.out.mono ?_; rintro e w5 ⟨rfl, hB5⟩))
   go_ret
   refine ⟨?_, hB14.trans (hB5.mono hB14.size)⟩
   show Ending.returned (Value.bool (code != 0)) = _
   rw [show (code != 0) = true by simpa using hcd]
end Go.Proofs.YtecldhngggkjjaaGreat.Ws
