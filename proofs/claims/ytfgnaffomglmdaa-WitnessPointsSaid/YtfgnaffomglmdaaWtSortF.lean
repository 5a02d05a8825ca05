/-
  slices.SortFunc of numbers of calls, by their points.
-/
import Derived.Test.YtfgnaffomglmdaaWtCall
import Derived.Test.YtfgnaffomglmdaaWtInsP
import Derived.Test.YtfgnaffomglmdaaMpMay
import Derived.Test.YtfgnaffomglmdaaShelfF
import Derived.BigQuiet
namespace Go.Proofs.Ytfgnaffomglmdaa.Wt
open Go.RowKit Mr Md
set_option linter.unusedVariables false
set_option linter.unusedSimpArgs false
set_option maxRecDepth 100000
set_option maxHeartbeats 8000000 in
theorem points1_any {w : World} {b1 bc oc n cap : Nat} (hbox : w.cell? ⟨b1, 0, none⟩ = some (.slice (some ⟨bc, oc, none⟩) n cap)) {x y : Nat} {c d : Cq} (hx : x < n) (hy : y < n) (hc : At9 w bc (oc + x * 9) c) (hd : At9 w bc (oc + y * 9) d) :
    Calls Try.prog 28 #[.int .i64 (x : Int), .int .i64 (y : Int), .pointer (some ⟨b1, 0, none⟩)] w fun e w' => e = .returned (.int .i64 (cmpI c.pt d.pt)) ∧ ∃ q, w' = w.drewN q := by
  obtain ⟨hbl, -, -, -, -, -, -, g6, -, -⟩ := hc
  obtain ⟨-, -, -, -, -, -, -, d6, -, -⟩ := hd
  have f1 : (x : Int) < (n : Int) := by omega
  have f2 : (y : Int) < (n : Int) := by omega
  have C := fun w => compare_any c.pt d.pt w
  generalize cmpI c.pt d.pt = r at *
  replace C := Mr.hid C
  go_enter Try.func28, Try.ntmps28
  go_upto_region 1 with (fail)
  go_quiet ((go_at_call 29; exact Calls.quiet_of_same (C.out _)))
  go_wp2
  go_ret
  exact ⟨rfl, nq, rfl⟩
/-- Numbers of calls. -/
def encF {n : Nat} (x : Fin n) : Value := .int .i64 (x.val : Int)
def nums {n : Nat} (d : List (Fin n)) : List Int := d.map fun x => (x.val : Int)
theorem nums_of {n : Nat} : ∀ {l : List Int}, (∀ y ∈ l, 0 ≤ y ∧ y < (n : Int)) → ∃ d : List (Fin n), nums d = l := by
  intro l
  induction l with
  | nil => intro _; exact ⟨[], rfl⟩
  | cons y l ih =>
    intro h
    obtain ⟨d, hd⟩ := ih (fun z hz => h z (List.mem_cons_of_mem _ hz))
    have hy := h y (by simp)
    exact ⟨⟨y.toNat, by omega⟩ :: d, by simp [nums] at hd ⊢; exact ⟨by omega, hd⟩⟩
def cfP (cs : List Cq) {n : Nat} (x y : Fin n) : Int := cmpI (ptAt cs (x.val : Int)) (ptAt cs (y.val : Int))
theorem ltOf_cfP (cs : List Cq) {n : Nat} (x y : Fin n) : ltOf (cfP cs) x y = decide (ptAt cs (x.val : Int) < ptAt cs (y.val : Int)) := by
  unfold ltOf cfP; exact cmpI_neg _ _
theorem swo_cfP (cs : List Cq) {n : Nat} : Sort.SWO (ltOf (cfP cs (n := n))) := by
  refine ⟨fun x => ?_, fun x y z h1 h2 => ?_, fun x y z h1 h2 => ?_⟩
  · rw [ltOf_cfP]; simp
  · rw [ltOf_cfP] at *; simp at *; omega
  · rw [ltOf_cfP] at *; simp at *; omega
theorem sort_cell {α : Type} [Inhabited α] (enc : α → Value) {W : World} {blk off m : Nat} {dk : Array α} {os : Array Obj} {p : Addr} (hp : p.block < W.heap.size) (hne : p.block ≠ blk) : (sortWorld enc W blk off m dk os).cell? p = W.cell? p := by
  unfold sortWorld
  rw [Sort.cell?_grow _ _ _ (by simpa using hp)]
  simp [World.cell?, Sort.putRow, Sort.mapBlock, Sort.ahead, Array.getElem?_modify, Ne.symm hne]
theorem sort_at9 {α : Type} [Inhabited α] (enc : α → Value) {W : World} {blk off m : Nat} {dk : Array α} {os : Array Obj} {b o : Nat} {c : Cq} (h : At9 W b o c) (hne : b ≠ blk) : At9 (sortWorld enc W blk off m dk os) b o c := by
  have e := fun k => sort_cell enc (W := W) (blk := blk) (off := off) (m := m) (dk := dk) (os := os) (p := ⟨b, k, none⟩) h.lt hne
  exact ⟨Nat.lt_of_lt_of_le h.lt (by unfold sortWorld; simp), (e _).trans h.c0, (e _).trans h.c1, (e _).trans h.c2, (e _).trans h.c3, (e _).trans h.c4, (e _).trans h.c5, (e _).trans h.c6, (e _).trans h.c7, (e _).trans h.c8⟩
theorem sortF_any {W : World} {S T : Nat → Prop} {u : Value} {l : List Int} {cs : List Cq} {b1 : Nat} {a : Option Addr} {cap : Nat} (hu : Own W S 3 1 u l.length (ints l)) (hbox : W.cell? ⟨b1, 0, none⟩ = some (.slice a cs.length cap)) (hb1 : b1 < W.heap.size) (hv : Sl W T 9 (.slice a cs.length cap) cs.length (cqs cs)) (hS1 : ¬ S b1) (hST : ∀ k, T k → k < W.heap.size → ¬ S k) (hl : ∀ y ∈ l, 0 ≤ y ∧ y < (cs.length : Int)) (hsz : l.length < 4611686018427387904) :
    Calls Try.prog 27 #[u, .func (.func 28) #[] #[.pointer (some ⟨b1, 0, none⟩)]] W fun e w' => e = .returned (.tuple #[]) ∧ Fr W w' S ∧ ∃ l' : List Int, l'.Perm l ∧ l'.Pairwise (fun a b => ptAt cs a ≤ ptAt cs b) ∧ Sl w' S 1 u l'.length (ints l') := by
  by_cases h0 : l.length = 0
  · obtain ⟨au, cu, rfl, hc, _⟩ := hu.form
    have hz : l = [] := List.eq_nil_of_length_eq_zero h0
    subst hz
    refine (Try.slices_SortFunc_none (α := Nat) au cu _ W).mono ?_
    rintro e w' ⟨rfl, rfl⟩
    exact ⟨rfl, Fr.refl _ _, [], List.Perm.refl _, List.Pairwise.nil, hu.sl⟩
  · obtain ⟨g, o, cu, cur, rfl, hc, hm, hSg, hg, hs, hx⟩ := hu.there (by omega)
    obtain ⟨d, rfl⟩ := nums_of hl
    have hlen : (nums d).length = d.length := by simp [nums]
    have hd0 : 0 < d.length := by omega
    haveI : Inhabited (Fin cs.length) := ⟨d[0]⟩
    have hl2 := (Array.getElem?_eq_some_iff.1 hg).1
    have hH : Sort.Holds (encF (n := cs.length)) W g o d.toArray := by
      intro j hj
      have hj' : j < d.length := by simpa using hj
      refine ⟨?_, by simp [World.frozen?, hg]⟩
      have := own_cells hg hx j _ (ints_get (nums d) j (by rw [hlen]; exact hj'))
      rw [this]
      simp [nums, encF, hj']
    have hcmp : CmpLays1 Try.prog 28 #[.pointer (some ⟨b1, 0, none⟩)] (encF (n := cs.length)) (cfP cs) g o d.toArray.size W := by
      refine CmpReads.lays ?_
      intro m os dk hdk x y
      obtain ⟨c, hcx⟩ := get_of_lt (cs := cs) x.isLt
      obtain ⟨c', hcy⟩ := get_of_lt (cs := cs) y.isLt
      obtain ⟨bc, oc, e1, A1⟩ := call_at hv hcx
      obtain ⟨bc', oc', e2, A2⟩ := call_at hv hcy
      rw [e1] at e2; cases e2
      subst e1
      have hTb : T bc := by
        obtain ⟨b', o', cap', e, _, hT, _⟩ := hv.there (by have := x.isLt; omega)
        cases e; exact hT
      have hbg : bc ≠ g := fun e => hST bc hTb A1.lt (by rw [e]; exact hSg)
      have hb1g : b1 ≠ g := fun e => hS1 (by rw [e]; exact hSg)
      have hb := (sort_cell (encF (n := cs.length)) (W := W) (blk := g) (off := o) (m := m) (dk := dk) (os := os) (p := ⟨b1, 0, none⟩) hb1 hb1g).trans hbox
      have := points1_any hb x.isLt y.isLt (sort_at9 (encF (n := cs.length)) A1 hbg (off := o) (m := m) (dk := dk) (os := os)) (sort_at9 (encF (n := cs.length)) A2 hbg (off := o) (m := m) (dk := dk) (os := os))
      rw [← ptAt_get hcx, ← ptAt_get hcy] at this
      exact this
    have hO : OneCell (encF (n := cs.length)) := fun x => rfl
    have eg : ∀ args w, (callFunc 28 args).run Try.prog w = .ok (.enter 28 args) w := enters_of Try.func28 (by kernel_rfl) rfl
    have := Try.slices_SortFunc (encF (n := cs.length)) hO (cfP cs) (swo_cfP cs) 28 #[.pointer (some ⟨b1, 0, none⟩)] g o cu d.toArray W eg hcmp hH hl2 (by simpa [nums] using hsz)
    rw [show d.toArray.size = (nums d).length from by simp [nums]] at this
    refine this.mono ?_
    rintro e w' ⟨rfl, d', n, os, hp, hsd, rfl⟩
    have hsz' : d'.size = d.length := by have := hp.1; simpa using this
    have hperm : d'.toList.Perm d := by
      have h9 : (List.take d.length d'.toList).Perm d := by
        have := hp.2.2
        simpa [nums, hsz', Array.extract_size] using this
      rwa [List.take_of_length_le (by simp [hsz'])] at h9
    refine ⟨rfl, ⟨rfl, rfl, rfl, by unfold sortWorld; simp, fun k hk hne => ?_⟩, nums d'.toList, hperm.map _, ?_, ?_⟩
    · unfold sortWorld
      rw [Sort.heap_grow_old _ _ (by simpa using hk)]
      have : g ≠ k := fun e => hne (by rw [← e]; exact hSg)
      simp [Sort.putRow, Sort.mapBlock, Sort.ahead, Array.getElem?_modify, this]
    · unfold nums
      rw [List.pairwise_map, List.pairwise_iff_getElem]
      intro i j hi hj hij
      have h1 := hsd i j (Nat.zero_le _) hij (by simp at hj; rw [hlen]; omega)
      rw [ltOf_cfP] at h1
      simp at hi hj
      simp [hi, hj] at h1 ⊢
      omega
    · have el : (nums d'.toList).length = (nums d).length := by simp [nums, hsz']
      refine ⟨by simp [ints], _, cu, by rw [el], by rw [el]; exact hc, .inr ⟨g, o, rfl, hSg, by unfold sortWorld; simp; omega, fun j u hu => ?_⟩⟩
      have hj : j < d'.size := by have := (List.getElem?_eq_some_iff.1 hu).1; simpa [ints, nums] using this
      unfold sortWorld
      rw [Sort.cell?_grow _ _ _ (by simpa using hl2)]
      have := Sort.cell?_putRow (encF (n := cs.length)) (Sort.ahead W n) g o d.toArray d' hH (by simpa using hsz') j hj
      rw [this]
      simp [ints, nums, encF, hj] at hu ⊢
      rw [← hu]
end Go.Proofs.Ytfgnaffomglmdaa.Wt
