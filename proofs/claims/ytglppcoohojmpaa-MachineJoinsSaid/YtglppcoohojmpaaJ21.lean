import Derived.Test.YtglppcoohojmpaaJ20
import Derived.Deep.MidRow
import Derived.Deep.RegionHeldLaw
/-
  THE DOCUMENT's MACHINE: a call begins.
-/
namespace Go.Proofs.Ytglppcoohojmpaa.Rf
open Go.RowKit Mr Me Ma
def cfst : Code → Code
  | .seq a _ => a
  | c => c
def csnd : Code → Code
  | .seq _ b => b
  | c => c
def cin : Code → Code
  | .block _ c => c
  | .loop c => c
  | c => c
def cthn : Code → Code
  | .cond _ a _ => a
  | c => c
/-- What only returns. -/
def onlyRet (R : Array Value → World → Prop) : Exit → Act → World → Prop
  | .ret, a, w => R a.tmps w ∧ a.defers = []
  | _, _, _ => False
/-- Where a call begins. -/
noncomputable def codeBG : Code := cthn (csnd (csnd (cin (cfst (csnd (csnd (cin (cin (csnd (cfst (tl 5 (Try.f40.body.getD .skip))))))))))))
noncomputable def codeBG2 : Code := tl 4 codeBG
section
variable {W : World} {U : Nat → Prop} {q : Rc} {vc vl vs : Value} {s : Rs} {i : Nat} {t : Rt}
theorem info_call : (Try.prog.info? 78).map (fun i => (i.zero, i.size, i.bytes)) = some (some (.agg #[.int .i64 0, .int .i64 0, .int .i64 0, .int .i64 0, .int .i64 0, .int .i64 0, .int .i64 0, .int .i64 0, .int .i64 0]), 9, 72) := by kernel_rfl
theorem Rm.calld (h : Rm W U q vc vl vs s) {w0 w1 : World} (hB : Below W.heap.size W w0) {v' : Value} {x : Cl} {n : Nat} (hn : n = s.cls.length + 1)
    (hown : Has w1 (fun k => U k ∨ (W.heap.size ≤ k ∧ k < w1.heap.size)) 78 9 v' n (clc s.cls ++ x.cells)) (hgrow : w0.grownBy w1 vc.ownBlock) :
    Rm (w1.setCell ⟨q.b, 24, none⟩ v') (fun k => U k ∨ (W.heap.size ≤ k ∧ k < w1.heap.size)) q v' vl vs { s with cls := s.cls ++ [x] } ∧ Fr W (w1.setCell ⟨q.b, 24, none⟩ v') U := by
  subst hn
  have hbl : vc.ownBlock ≠ some q.b := not_row h.bx h.cl (by decide)
  have hb := h.grow1 hB hgrow hbl
  have hb' : v'.ownBlock ≠ some q.b := not_row hb hown (by decide)
  have hs : w0.heap.size ≤ w1.heap.size := hgrow.size
  have hs0 := hB.size
  have f : ∀ {e sz n : Nat} {v : Value} {xs : List Value}, Has W U e sz v n xs → e ≠ 78 → v.ownBlock ≠ some q.b → Has (w1.setCell ⟨q.b, 24, none⟩ v') (fun k => U k ∨ (W.heap.size ≤ k ∧ k < w1.heap.size)) e sz v n xs := fun hv hne hb2 => (((hv.below hB).grown hgrow (fun k hk e => has_ne hv h.cl hne k hk e)).setCell _ _ hb2).mono (fun _ => .inl)
  refine ⟨⟨?_, f h.wd (by decide) (not_row h.bx h.wd (by decide)), f h.cd (by decide) (not_row h.bx h.cd (by decide)), f h.lb (by decide) (not_row h.bx h.lb (by decide)), f h.en (by decide) (not_row h.bx h.en (by decide)), f h.th (by decide) (not_row h.bx h.th (by decide)), h.tn, ?_, f h.lg (by decide) (not_row h.bx h.lg (by decide)), .inl h.ub, fun k hk => ?_⟩, ?_⟩
  · unfold Rc.box at hb ⊢
    rw [setBlk hb]
    rfl
  · have e : (s.cls ++ [x]).length = s.cls.length + 1 := by simp
    have e2 : clc (s.cls ++ [x]) = clc s.cls ++ x.cells := by simp [clc]
    show Has _ _ _ 9 v' (s.cls ++ [x]).length (clc (s.cls ++ [x]))
    rw [e, e2]
    exact hown.setCell _ _ hb'
  · have hz : (w1.setCell ⟨q.b, 24, none⟩ v').heap.size = w1.heap.size := by simp [World.setCell]
    rw [hz]
    rcases hk with hk | hk
    · have := h.ul k hk; omega
    · exact hk.2
  · exact ((Fr.of_below hB).grown hgrow (fun k hk => .inl (h.cl.lt k hk).1)).setCell _ _ (.inl h.ub)
noncomputable def codeBG3 : Code := tl 5 codeBG
set_option maxRecDepth 100000 in
set_option maxHeartbeats 4000000 in
theorem begin_three {W0 : World} (h : Rm W U q vc vl vs s) (hF : Fr W0 W U) {b3 : Nat} {op arg data : Int} (hx : W.heap[b3]? = some (.cells #[.int .i64 (i : Int), .int .i64 op, .int .i64 arg, .int .i64 data] 46 (0, 0))) (hU : ¬ U b3) (hl : s.cls.length ≤ 100000) {z1 z2 z4 z5 z6 z7 z8 z9 z10 z11 z12 z13 z14 z15 z16 z17 z18 z19 z20 z21 z22 z23 z24 z25 z26 z27 z28 z29 z30 z31 z32 z33 z34 z35 z36 z37 z38 z39 z40 z41 z42 z43 z44 z45 z46 z47 z48 z49 z50 z51 z52 z53 z54 z55 z56 z57 z58 z59 z60 z61 z62 z63 z64 z65 z66 z67 z68 z69 z70 z71 z72 z73 z74 z75 z76 z77 z78 z79 z80 z81 z82 z83 z84 z85 z86 z87 z88 z89 z90 z91 z92 z93 z94 z95 z96 z97 z98 z99 z100 z101 z102 z103 z104 z105 z106 z107 z108 z109 z110 z111 z112 z113 z114 z115 : Value} {R : Array Value → World → Prop}
    (hQ : ∀ (tm : Array Value) (w' : World), tm[4]? = some (.bool true) → OutR W0 U q vs { s with cls := s.cls ++ [⟨i, op, arg, data, s.n, -1, -1, 0, 0⟩] } w' → R tm w') :
    Code.wp Try.prog codeBG3 (onlyRet R) ⟨#[.pointer (some ⟨q.b, 0, none⟩), z1, z2, .pointer (some ⟨b3, 0, none⟩), z4, z5, z6, z7, z8, z9, z10, z11, z12, z13, z14, z15, z16, z17, z18, z19, z20, z21, z22, z23, z24, z25, z26, z27, z28, z29, z30, z31, z32, z33, z34, z35, z36, z37, z38, z39, z40, z41, z42, z43, z44, z45, z46, z47, z48, z49, z50, z51, z52, z53, z54, z55, z56, z57, z58, z59, z60, z61, z62, z63, z64, z65, z66, z67, z68, z69, z70, z71, z72, z73, z74, z75, z76, z77, z78, z79, z80, z81, z82, z83, z84, z85, z86, z87, z88, z89, z90, z91, z92, z93, z94, z95, z96, z97, z98, z99, z100, z101, z102, z103, z104, z105, z106, z107, z108, z109, z110, z111, z112, z113, z114, z115], []⟩ W := by
  obtain ⟨i0, hi, hz0, hz1, hz2⟩ := info_parts info_call
  obtain ⟨_, x23, x24, _⟩ := h.cells
  have l1 := h.lt
  have l3 : b3 < W.heap.size := (Array.getElem?_eq_some_iff.1 hx).1
  have n4 : b3 ≠ q.b := fun e => hU (by rw [e]; exact h.ub)
  have n4' := n4.symm
  obtain ⟨a, cap, hv, hle⟩ := h.cl.form
  subst hv
  have y : W.cell? ⟨b3, 0, none⟩ = some (.int .i64 (i : Int)) ∧ W.cell? ⟨b3, 1, none⟩ = some (.int .i64 op) ∧ W.cell? ⟨b3, 2, none⟩ = some (.int .i64 arg) ∧ W.cell? ⟨b3, 3, none⟩ = some (.int .i64 data) := by simp [World.cell?, hx]
  obtain ⟨y0, y1, y2, y3⟩ := y
  have hB1 : Below W.heap.size W (W.drew.alloc (.cells #[.int .i64 (i : Int), .int .i64 op, .int .i64 arg, .int .i64 data, .int .i64 s.n, .int .i64 (-1), .int .i64 (-1), .int .i64 0, .int .i64 0] 78)) := ((Below.refl _ _).drew).alloc (Nat.le_refl _) _
  have law : Has (W.drew.alloc (.cells #[.int .i64 (i : Int), .int .i64 op, .int .i64 arg, .int .i64 data, .int .i64 s.n, .int .i64 (-1), .int .i64 (-1), .int .i64 0, .int .i64 0] 78)) (fun k => U k ∨ W.heap.size ≤ k) 78 9 (.slice a s.cls.length cap) s.cls.length (clc s.cls) := (h.cl.below hB1).mono (fun _ => .inl)
  have news := newsAt W.drew (W.drew.alloc (.cells #[.int .i64 (i : Int), .int .i64 op, .int .i64 arg, .int .i64 data, .int .i64 s.n, .int .i64 (-1), .int .i64 (-1), .int .i64 0, .int .i64 0] 78)) #[.int .i64 (i : Int), .int .i64 op, .int .i64 arg, .int .i64 data, .int .i64 s.n, .int .i64 (-1), .int .i64 (-1), .int .i64 0, .int .i64 0] 78 W.heap.size rfl rfl
  have hbl : (Value.slice a s.cls.length cap).ownBlock ≠ some q.b := not_row h.bx h.cl (by decide)
  have FN := fun (w1 : World) (g cap' : Nat) (hown : Has w1 (fun k => U k ∨ W.heap.size ≤ k) 78 9 (.slice (some ⟨g, 0, none⟩) (s.cls.length + 1) cap') (s.cls.length + 1) (clc s.cls ++ [.int .i64 (i : Int), .int .i64 op, .int .i64 arg, .int .i64 data, .int .i64 s.n, .int .i64 (-1), .int .i64 (-1), .int .i64 0, .int .i64 0])) (hgrow : (W.drew.alloc (.cells #[.int .i64 (i : Int), .int .i64 op, .int .i64 arg, .int .i64 data, .int .i64 s.n, .int .i64 (-1), .int .i64 (-1), .int .i64 0, .int .i64 0] 78)).grownBy w1 (Value.slice a s.cls.length cap).ownBlock) => (show OutR W0 U q vs { s with cls := s.cls ++ [⟨i, op, arg, data, s.n, -1, -1, 0, 0⟩] } (w1.setCell ⟨q.b, 24, none⟩ (.slice (some ⟨g, 0, none⟩) (s.cls.length + 1) cap')) from by
    obtain ⟨r1, r2⟩ := h.calld hB1 (x := ⟨i, op, arg, data, s.n, -1, -1, 0, 0⟩) rfl (hown.kept (fun _ _ => rfl) (fun k hk => by
      have := hown.lt k hk
      rcases this.1 with e | e
      · exact .inl e
      · exact .inr ⟨e, this.2⟩)) hgrow
    have hs := hF.size
    exact ⟨_, _, _, r1, fun _ hk => .inl hk, fun k hk => by rcases hk with hk | hk; exact .inl hk; exact .inr (by omega), hF.trans (r2.mono (fun _ hk => .inl hk))⟩)
  have KS := fun (w1 : World) (hgrow : (W.drew.alloc (.cells #[.int .i64 (i : Int), .int .i64 op, .int .i64 arg, .int .i64 data, .int .i64 s.n, .int .i64 (-1), .int .i64 (-1), .int .i64 0, .int .i64 0] 78)).grownBy w1 (Value.slice a s.cls.length cap).ownBlock) => (show (w1.cell? ⟨q.b, 23, none⟩ = some (.int .i64 s.n) ∧ w1.cell? ⟨b3, 0, none⟩ = some (.int .i64 (i : Int)) ∧ w1.cell? ⟨b3, 1, none⟩ = some (.int .i64 op) ∧ w1.cell? ⟨b3, 2, none⟩ = some (.int .i64 arg) ∧ w1.cell? ⟨b3, 3, none⟩ = some (.int .i64 data)) ∧ w1.cell? ⟨q.b, 24, none⟩ = some (.slice a s.cls.length cap) ∧ w1.frozen? ⟨q.b, 24, none⟩ = false from by
    have kb := h.grow1 hB1 hgrow hbl
    unfold Rc.box at kb
    have e1 : (W.drew.alloc (.cells #[.int .i64 (i : Int), .int .i64 op, .int .i64 arg, .int .i64 data, .int .i64 s.n, .int .i64 (-1), .int .i64 (-1), .int .i64 0, .int .i64 0] 78)).heap[b3]? = some (.cells #[.int .i64 (i : Int), .int .i64 op, .int .i64 arg, .int .i64 data] 46 (0, 0)) := (hB1.block _ l3).trans hx
    have k3 : w1.heap[b3]? = some (.cells #[.int .i64 (i : Int), .int .i64 op, .int .i64 arg, .int .i64 data] 46 (0, 0)) := (hgrow.block _ (Array.getElem?_eq_some_iff.1 e1).1 (fun e => hU (h.cl.lt b3 e.symm).1)).trans e1
    simp [World.cell?, World.frozen?, kb, k3])
  have hS2 : (W.drew.alloc (.cells #[.int .i64 (i : Int), .int .i64 op, .int .i64 arg, .int .i64 data, .int .i64 s.n, .int .i64 (-1), .int .i64 (-1), .int .i64 0, .int .i64 0] 78)).cell? ⟨q.b, 23, none⟩ = some (.int .i64 s.n) ∧ (W.drew.alloc (.cells #[.int .i64 (i : Int), .int .i64 op, .int .i64 arg, .int .i64 data, .int .i64 s.n, .int .i64 (-1), .int .i64 (-1), .int .i64 0, .int .i64 0] 78)).cell? ⟨b3, 0, none⟩ = some (.int .i64 (i : Int)) ∧ (W.drew.alloc (.cells #[.int .i64 (i : Int), .int .i64 op, .int .i64 arg, .int .i64 data, .int .i64 s.n, .int .i64 (-1), .int .i64 (-1), .int .i64 0, .int .i64 0] 78)).cell? ⟨b3, 1, none⟩ = some (.int .i64 op) ∧ (W.drew.alloc (.cells #[.int .i64 (i : Int), .int .i64 op, .int .i64 arg, .int .i64 data, .int .i64 s.n, .int .i64 (-1), .int .i64 (-1), .int .i64 0, .int .i64 0] 78)).cell? ⟨b3, 2, none⟩ = some (.int .i64 arg) ∧ (W.drew.alloc (.cells #[.int .i64 (i : Int), .int .i64 op, .int .i64 arg, .int .i64 data, .int .i64 s.n, .int .i64 (-1), .int .i64 (-1), .int .i64 0, .int .i64 0] 78)).cell? ⟨b3, 3, none⟩ = some (.int .i64 data) := ⟨(World.cell?_alloc_past _ _ _ l1).trans x23, (World.cell?_alloc_past _ _ _ l3).trans y0, (World.cell?_alloc_past _ _ _ l3).trans y1, (World.cell?_alloc_past _ _ _ l3).trans y2, (World.cell?_alloc_past _ _ _ l3).trans y3⟩
  have x24d : W.drew.cell? ⟨q.b, 24, none⟩ = some (.slice a s.cls.length cap) := x24
  have x24e : (W.drew.alloc (.cells #[.int .i64 (i : Int), .int .i64 op, .int .i64 arg, .int .i64 data, .int .i64 s.n, .int .i64 (-1), .int .i64 (-1), .int .i64 0, .int .i64 0] 78)).cell? ⟨q.b, 24, none⟩ = some (.slice a s.cls.length cap) := (World.cell?_alloc_past _ _ _ l1).trans x24
  replace FN := Mr.hid FN
  replace KS := Mr.hid KS
  replace h := Mr.hid h
  replace hQ := Mr.hid hQ
  clear hx hF hU hbl
  unfold codeBG3 codeBG
  conv => arg 2; whnf
  go_step
  refine wp_region_held_drew (S := fun w' => w'.cell? ⟨q.b, 23, none⟩ = some (.int .i64 s.n) ∧ w'.cell? ⟨b3, 0, none⟩ = some (.int .i64 (i : Int)) ∧ w'.cell? ⟨b3, 1, none⟩ = some (.int .i64 op) ∧ w'.cell? ⟨b3, 2, none⟩ = some (.int .i64 arg) ∧ w'.cell? ⟨b3, 3, none⟩ = some (.int .i64 data)) (by kernel_rfl) ⟨x23, y0, y1, y2, y3⟩ (fun hS => ?_)
  refine wpAnyH_take (i := 0) (v := .pointer (some ⟨q.b, 0, none⟩)) rfl (by kernel_rfl) (by kernel_rfl) (by kernel_rfl) (fun _ _ _ h => h) (Or.inl ⟨by rfl, fun w' hw => ?y0⟩) hS ?_
  case y0 =>
    obtain ⟨s1, s2, s3, s4, s5⟩ := hw
    clear hS
    go_simp
  refine wpAnyH_take (i := 1) (v := .pointer (some ⟨q.b, 0, none⟩)) rfl (by kernel_rfl) (by kernel_rfl) (by kernel_rfl) (fun _ _ _ h => h) (Or.inl ⟨by rfl, fun w' hw => ?y1⟩) hS ?_
  case y1 =>
    obtain ⟨s1, s2, s3, s4, s5⟩ := hw
    clear hS
    go_simp
  refine wpAnyH_take (i := 2) (v := .pointer (some ⟨q.b, 0, none⟩)) rfl (by kernel_rfl) (by kernel_rfl) (by kernel_rfl) (fun _ _ _ h => h) (Or.inl ⟨by rfl, fun w' hw => ?y2⟩) hS ?_
  case y2 =>
    obtain ⟨s1, s2, s3, s4, s5⟩ := hw
    clear hS
    go_simp
  refine wpAnyH_take (i := 3) (v := .pointer (some ⟨q.b, 24, none⟩)) rfl (by kernel_rfl) (by kernel_rfl) (by kernel_rfl) (fun _ _ _ h => h) (Or.inl ⟨by rfl, fun w' hw => ?y3⟩) hS ?_
  case y3 =>
    obtain ⟨s1, s2, s3, s4, s5⟩ := hw
    clear hS
    go_simp
  refine wpAnyH_take (i := 5) (v := .pointer (some ⟨b3, 0, none⟩)) rfl (by kernel_rfl) (by kernel_rfl) (by kernel_rfl) (fun _ _ _ h => h) (Or.inl ⟨by rfl, fun w' hw => ?y5⟩) hS ?_
  case y5 =>
    obtain ⟨s1, s2, s3, s4, s5⟩ := hw
    clear hS
    go_simp
  refine wpAnyH_take (i := 6) (v := .int .i64 (i : Int)) rfl (by kernel_rfl) (by kernel_rfl) (by kernel_rfl) (fun _ _ _ h => h) (Or.inl ⟨by rfl, fun w' hw => ?y6⟩) hS ?_
  case y6 =>
    obtain ⟨s1, s2, s3, s4, s5⟩ := hw
    clear hS
    go_simp
  refine wpAnyH_take (i := 7) (v := .pointer (some ⟨b3, 1, none⟩)) rfl (by kernel_rfl) (by kernel_rfl) (by kernel_rfl) (fun _ _ _ h => h) (Or.inl ⟨by rfl, fun w' hw => ?y7⟩) hS ?_
  case y7 =>
    obtain ⟨s1, s2, s3, s4, s5⟩ := hw
    clear hS
    go_simp
  refine wpAnyH_take (i := 8) (v := .int .i64 op) rfl (by kernel_rfl) (by kernel_rfl) (by kernel_rfl) (fun _ _ _ h => h) (Or.inl ⟨by rfl, fun w' hw => ?y8⟩) hS ?_
  case y8 =>
    obtain ⟨s1, s2, s3, s4, s5⟩ := hw
    clear hS
    go_simp
  refine wpAnyH_take (i := 9) (v := .pointer (some ⟨b3, 2, none⟩)) rfl (by kernel_rfl) (by kernel_rfl) (by kernel_rfl) (fun _ _ _ h => h) (Or.inl ⟨by rfl, fun w' hw => ?y9⟩) hS ?_
  case y9 =>
    obtain ⟨s1, s2, s3, s4, s5⟩ := hw
    clear hS
    go_simp
  refine wpAnyH_take (i := 10) (v := .int .i64 arg) rfl (by kernel_rfl) (by kernel_rfl) (by kernel_rfl) (fun _ _ _ h => h) (Or.inl ⟨by rfl, fun w' hw => ?y10⟩) hS ?_
  case y10 =>
    obtain ⟨s1, s2, s3, s4, s5⟩ := hw
    clear hS
    go_simp
  refine wpAnyH_take (i := 11) (v := .pointer (some ⟨b3, 3, none⟩)) rfl (by kernel_rfl) (by kernel_rfl) (by kernel_rfl) (fun _ _ _ h => h) (Or.inl ⟨by rfl, fun w' hw => ?y11⟩) hS ?_
  case y11 =>
    obtain ⟨s1, s2, s3, s4, s5⟩ := hw
    clear hS
    go_simp
  refine wpAnyH_take (i := 12) (v := .int .i64 data) rfl (by kernel_rfl) (by kernel_rfl) (by kernel_rfl) (fun _ _ _ h => h) (Or.inl ⟨by rfl, fun w' hw => ?y12⟩) hS ?_
  case y12 =>
    obtain ⟨s1, s2, s3, s4, s5⟩ := hw
    clear hS
    go_simp
  refine wpAnyH_take (i := 13) (v := .pointer (some ⟨q.b, 0, none⟩)) rfl (by kernel_rfl) (by kernel_rfl) (by kernel_rfl) (fun _ _ _ h => h) (Or.inl ⟨by rfl, fun w' hw => ?y13⟩) hS ?_
  case y13 =>
    obtain ⟨s1, s2, s3, s4, s5⟩ := hw
    clear hS
    go_simp
  refine wpAnyH_take (i := 14) (v := .pointer (some ⟨q.b, 0, none⟩)) rfl (by kernel_rfl) (by kernel_rfl) (by kernel_rfl) (fun _ _ _ h => h) (Or.inl ⟨by rfl, fun w' hw => ?y14⟩) hS ?_
  case y14 =>
    obtain ⟨s1, s2, s3, s4, s5⟩ := hw
    clear hS
    go_simp
  refine wpAnyH_take (i := 15) (v := .pointer (some ⟨q.b, 23, none⟩)) rfl (by kernel_rfl) (by kernel_rfl) (by kernel_rfl) (fun _ _ _ h => h) (Or.inl ⟨by rfl, fun w' hw => ?y15⟩) hS ?_
  case y15 =>
    obtain ⟨s1, s2, s3, s4, s5⟩ := hw
    clear hS
    go_simp
  refine wpAnyH_take (i := 16) (v := .int .i64 s.n) rfl (by kernel_rfl) (by kernel_rfl) (by kernel_rfl) (fun _ _ _ h => h) (Or.inl ⟨by rfl, fun w' hw => ?y16⟩) hS ?_
  case y16 =>
    obtain ⟨s1, s2, s3, s4, s5⟩ := hw
    clear hS
    go_simp
  refine wpAnyH_take (i := 17) (v := .agg #[.int .i64 (i : Int), .int .i64 op, .int .i64 arg, .int .i64 data, .int .i64 s.n, .int .i64 (-1), .int .i64 (-1), .int .i64 0, .int .i64 0]) rfl (by kernel_rfl) (by kernel_rfl) (by kernel_rfl) (fun _ _ _ h => h) (Or.inl ⟨by rfl, fun w' hw => ?y17⟩) hS ?_
  case y17 =>
    obtain ⟨s1, s2, s3, s4, s5⟩ := hw
    clear hS
    go_simp
  refine wpAnyH_ready (rs := [4, 18]) (by kernel_rfl) (by simp) (AllReadyH.cons rfl (fun K hK => ?a4) (AllReadyH.cons rfl (fun K hK => ?a18) AllReadyH.nil))
  case a4 =>
    go_simp
    refine hK.out _ _ hS (fun hS => ?_)
    clear hK K
    refine wpAnyH_ready (rs := [18]) (by kernel_rfl) (by simp) (AllReadyH.cons rfl (fun K hK => ?_) AllReadyH.nil)
    go_simp
    refine hK.out _ _ hS2 (fun hS => ?_)
    clear hK K
    refine wpAnyH_ready (rs := [19]) (by kernel_rfl) (by simp) (AllReadyH.cons rfl (fun K hK => ?_) AllReadyH.nil)
    refine step_append_has _ rfl (.tmp 97) (.tmp 111) 49 rfl (fun k => U k ∨ W.heap.size ≤ k) 78 i0 _ 9 72 Try.underlying49 hi hz0 hz1 hz2 rfl (.slice a s.cls.length cap) s.cls.length (clc s.cls) (by simp [Act.eval]) law ⟨W.heap.size, 0, none⟩ 1 1 [.int .i64 (i : Int), .int .i64 op, .int .i64 arg, .int .i64 data, .int .i64 s.n, .int .i64 (-1), .int .i64 (-1), .int .i64 0, .int .i64 0] (by simp [Act.eval]) rfl news (by simp [Value.oneCell']) (by omega) (by unfold maxLen; omega) (by omega) (.inr (by simp)) ?_
    intro g cap' w1 hown hgrow hat
    obtain ⟨hS1, kc, kf⟩ := KS.out w1 hgrow
    have F9 := Mr.hid (FN.out w1 g cap' hown hgrow)
    clear hown hgrow hat
    refine hK.out _ _ hS1 (fun hS => ?_)
    clear hK K
    refine wpAnyH_take (i := 20) (v := .pointer (some ⟨q.b, 0, none⟩)) rfl (by kernel_rfl) (by kernel_rfl) (by kernel_rfl) (fun _ _ _ h => h) (Or.inl ⟨by rfl, fun w' hw => ?y20⟩) hS ?_
    case y20 =>
      obtain ⟨s1, s2, s3, s4, s5⟩ := hw
      clear hS
      go_simp
    refine wpAnyH_take (i := 21) (v := .pointer (some ⟨q.b, 24, none⟩)) rfl (by kernel_rfl) (by kernel_rfl) (by kernel_rfl) (fun _ _ _ h => h) (Or.inl ⟨by rfl, fun w' hw => ?y21⟩) hS ?_
    case y21 =>
      obtain ⟨s1, s2, s3, s4, s5⟩ := hw
      clear hS
      go_simp
    refine wpAnyH_ready (rs := [22]) (by kernel_rfl) (by simp) (AllReadyH.cons rfl (fun K hK => ?_) AllReadyH.nil)
    go_simp
    refine hK.out _ _ ⟨(World.cell?_setCell_other w1 ⟨q.b, 24, none⟩ ⟨q.b, 23, none⟩ _ (by simp)).trans hS1.1, (World.cell?_setCell_far w1 ⟨q.b, 24, none⟩ ⟨b3, 0, none⟩ _ n4').trans hS1.2.1, (World.cell?_setCell_far w1 ⟨q.b, 24, none⟩ ⟨b3, 1, none⟩ _ n4').trans hS1.2.2.1, (World.cell?_setCell_far w1 ⟨q.b, 24, none⟩ ⟨b3, 2, none⟩ _ n4').trans hS1.2.2.2.1, (World.cell?_setCell_far w1 ⟨q.b, 24, none⟩ ⟨b3, 3, none⟩ _ n4').trans hS1.2.2.2.2⟩ (fun _ => wpAnyH_done (by kernel_rfl) ?_ _)
    clear hK K hS hS1
    go_wp2
    exact ⟨hQ.out _ _ rfl F9.out, rfl⟩
  case a18 =>
    go_simp
    refine hK.out _ _ hS2 (fun hS => ?_)
    clear hK K
    refine wpAnyH_ready (rs := [4]) (by kernel_rfl) (by simp) (AllReadyH.cons rfl (fun K hK => ?_) AllReadyH.nil)
    go_simp
    refine hK.out _ _ hS2 (fun hS => ?_)
    clear hK K
    refine wpAnyH_ready (rs := [19]) (by kernel_rfl) (by simp) (AllReadyH.cons rfl (fun K hK => ?_) AllReadyH.nil)
    refine step_append_has _ rfl (.tmp 97) (.tmp 111) 49 rfl (fun k => U k ∨ W.heap.size ≤ k) 78 i0 _ 9 72 Try.underlying49 hi hz0 hz1 hz2 rfl (.slice a s.cls.length cap) s.cls.length (clc s.cls) (by simp [Act.eval]) law ⟨W.heap.size, 0, none⟩ 1 1 [.int .i64 (i : Int), .int .i64 op, .int .i64 arg, .int .i64 data, .int .i64 s.n, .int .i64 (-1), .int .i64 (-1), .int .i64 0, .int .i64 0] (by simp [Act.eval]) rfl news (by simp [Value.oneCell']) (by omega) (by unfold maxLen; omega) (by omega) (.inr (by simp)) ?_
    intro g cap' w1 hown hgrow hat
    obtain ⟨hS1, kc, kf⟩ := KS.out w1 hgrow
    have F9 := Mr.hid (FN.out w1 g cap' hown hgrow)
    clear hown hgrow hat
    refine hK.out _ _ hS1 (fun hS => ?_)
    clear hK K
    refine wpAnyH_take (i := 20) (v := .pointer (some ⟨q.b, 0, none⟩)) rfl (by kernel_rfl) (by kernel_rfl) (by kernel_rfl) (fun _ _ _ h => h) (Or.inl ⟨by rfl, fun w' hw => ?y20⟩) hS ?_
    case y20 =>
      obtain ⟨s1, s2, s3, s4, s5⟩ := hw
      clear hS
      go_simp
    refine wpAnyH_take (i := 21) (v := .pointer (some ⟨q.b, 24, none⟩)) rfl (by kernel_rfl) (by kernel_rfl) (by kernel_rfl) (fun _ _ _ h => h) (Or.inl ⟨by rfl, fun w' hw => ?y21⟩) hS ?_
    case y21 =>
      obtain ⟨s1, s2, s3, s4, s5⟩ := hw
      clear hS
      go_simp
    refine wpAnyH_ready (rs := [22]) (by kernel_rfl) (by simp) (AllReadyH.cons rfl (fun K hK => ?_) AllReadyH.nil)
    go_simp
    refine hK.out _ _ ⟨(World.cell?_setCell_other w1 ⟨q.b, 24, none⟩ ⟨q.b, 23, none⟩ _ (by simp)).trans hS1.1, (World.cell?_setCell_far w1 ⟨q.b, 24, none⟩ ⟨b3, 0, none⟩ _ n4').trans hS1.2.1, (World.cell?_setCell_far w1 ⟨q.b, 24, none⟩ ⟨b3, 1, none⟩ _ n4').trans hS1.2.2.1, (World.cell?_setCell_far w1 ⟨q.b, 24, none⟩ ⟨b3, 2, none⟩ _ n4').trans hS1.2.2.2.1, (World.cell?_setCell_far w1 ⟨q.b, 24, none⟩ ⟨b3, 3, none⟩ _ n4').trans hS1.2.2.2.2⟩ (fun _ => wpAnyH_done (by kernel_rfl) ?_ _)
    clear hK K hS hS1
    go_wp2
    exact ⟨hQ.out _ _ rfl F9.out, rfl⟩
end
end Go.Proofs.Ytglppcoohojmpaa.Rf
/-
  THE DOCUMENT's MACHINE: a call begins: the thread's row.
-/
namespace Go.Proofs.Ytglppcoohojmpaa.Rf
open Go.RowKit Mr Me Ma
def zr (R : Nat → Int) : Nat → Int := fun k => if k < 48 then 0 else R k
def zl : List Value := List.replicate 48 u0
section
variable {W : World} {U : Nat → Prop} {q : Rc} {vc vl vs : Value} {s : Rs} {i : Nat} {t : Rt}
theorem zeros : ∀ (m j : Nat) {W : World} {s : Rs} {t : Rt}, j + m ≤ 48 → Rm W U q vc vl vs s → s.ths[i]? = some t →
    Rm (W.setCells q.gt (i * 658 + 3 + j) (List.replicate m u0)) U q vc vl vs (s.put i { t with R := fun k => if j ≤ k ∧ k < j + m then 0 else t.R k }) ∧ Fr W (W.setCells q.gt (i * 658 + 3 + j) (List.replicate m u0)) U := by
  intro m
  induction m with
  | zero =>
    intro j W s t _ h ht
    have e : ({ t with R := fun k => if j ≤ k ∧ k < j + 0 then 0 else t.R k } : Rt) = t := by
      have : (fun k => if j ≤ k ∧ k < j + 0 then (0 : Int) else t.R k) = t.R := by
        funext k
        rw [if_neg (by omega)]
      rw [this]
    rw [e]
    have e2 : s.put i t = s := by
      unfold Rs.put
      have : s.ths.set i t = s.ths := by
        obtain ⟨hl, he⟩ := List.getElem?_eq_some_iff.1 ht
        rw [← he, List.set_getElem_self]
      rw [this]
    rw [e2]
    exact ⟨h, Fr.refl W U⟩
  | succ m ih =>
    intro j W s t hj h ht
    have h1 := h.putT ht (3 + j) (by omega) (rt_setR t j (by omega) 0)
    rw [← Nat.add_assoc] at h1
    obtain ⟨r1, r2⟩ := ih (j + 1) (by omega) h1 (t := { t with R := upd t.R j 0 }) (by simp [(List.getElem?_eq_some_iff.1 ht).1])
    have e : ({ ({ t with R := upd t.R j 0 } : Rt) with R := fun k => if j + 1 ≤ k ∧ k < j + 1 + m then 0 else upd t.R j 0 k } : Rt) = { t with R := fun k => if j ≤ k ∧ k < j + (m + 1) then 0 else t.R k } := by
      have : (fun k => if j + 1 ≤ k ∧ k < j + 1 + m then (0 : Int) else upd t.R j 0 k) = fun k => if j ≤ k ∧ k < j + (m + 1) then 0 else t.R k := by
        funext k
        unfold upd
        by_cases e1 : k = j
        · rw [if_neg (by omega), if_pos e1, if_pos (by omega)]
        · by_cases e2 : j + 1 ≤ k ∧ k < j + 1 + m
          · rw [if_pos e2, if_pos (by omega)]
          · rw [if_neg e2, if_neg e1, if_neg (by omega)]
      simp only [this]
    have r1' : Rm ((W.setCell ⟨q.gt, i * 658 + 3 + j, none⟩ u0).setCells q.gt (i * 658 + 3 + (j + 1)) (List.replicate m u0)) U q vc vl vs (s.put i { t with R := fun k => if j ≤ k ∧ k < j + (m + 1) then 0 else t.R k }) := by
      rw [← e]
      have := r1
      unfold Rs.put at this ⊢
      simp only [List.set_set] at this
      exact this
    have eW : W.setCells q.gt (i * 658 + 3 + j) (List.replicate (m + 1) u0) = (W.setCell ⟨q.gt, i * 658 + 3 + j, none⟩ u0).setCells q.gt (i * 658 + 3 + (j + 1)) (List.replicate m u0) := by
      rw [List.replicate_succ, World.setCells, ← Nat.add_assoc (i * 658 + 3) j 1]
    rw [eW]
    have F1 : Fr W (W.setCell ⟨q.gt, i * 658 + 3 + j, none⟩ u0) U := (Fr.refl W U).setCell _ _ (.inl h.gtl.1)
    exact ⟨r1', F1.trans (r2.mono (fun _ hk => .inl hk))⟩
theorem Rm.zeroR (h : Rm W U q vc vl vs s) (ht : s.ths[i]? = some t) : Rm (W.setCells q.gt (i * 658 + 3) zl) U q vc vl vs (s.put i { t with R := zr t.R }) ∧ Fr W (W.setCells q.gt (i * 658 + 3) zl) U := by
  have := zeros 48 0 (by omega) h ht
  rw [show List.replicate 48 u0 = zl from rfl] at this
  have e : (fun k => if 0 ≤ k ∧ k < 0 + 48 then (0 : Int) else t.R k) = zr t.R := by
    funext k
    simp [zr]
  rw [e, Nat.add_zero] at this
  exact this
theorem Rm.thereR (h : Rm W U q vc vl vs s) (ht : s.ths[i]? = some t) : W.there q.gt (i * 658 + 3) 48 := fun j hj => ⟨by rw [h.reg ht j hj]; rfl, h.tfrz _⟩
theorem zl_len : zl.length = 48 := List.length_replicate
theorem zl_one : ∀ v ∈ zl, v.oneCell' = true := fun v hv => by rw [List.eq_of_mem_replicate hv]; rfl
theorem info_48 : (Try.prog.info? 115).map (fun i => i.size) = some 48 := by kernel_rfl
theorem zl_arr : zl.toArray = #[.int .u64 0, .int .u64 0, .int .u64 0, .int .u64 0, .int .u64 0, .int .u64 0, .int .u64 0, .int .u64 0, .int .u64 0, .int .u64 0, .int .u64 0, .int .u64 0, .int .u64 0, .int .u64 0, .int .u64 0, .int .u64 0, .int .u64 0, .int .u64 0, .int .u64 0, .int .u64 0, .int .u64 0, .int .u64 0, .int .u64 0, .int .u64 0, .int .u64 0, .int .u64 0, .int .u64 0, .int .u64 0, .int .u64 0, .int .u64 0, .int .u64 0, .int .u64 0, .int .u64 0, .int .u64 0, .int .u64 0, .int .u64 0, .int .u64 0, .int .u64 0, .int .u64 0, .int .u64 0, .int .u64 0, .int .u64 0, .int .u64 0, .int .u64 0, .int .u64 0, .int .u64 0, .int .u64 0, .int .u64 0] := by unfold zl u0; rfl
theorem store_zl (w : World) (g o : Nat) (h : w.there g o 48) : (Instr.storeAt 115 (.pointer (some ⟨g, o, none⟩)) (.agg #[.int .u64 0, .int .u64 0, .int .u64 0, .int .u64 0, .int .u64 0, .int .u64 0, .int .u64 0, .int .u64 0, .int .u64 0, .int .u64 0, .int .u64 0, .int .u64 0, .int .u64 0, .int .u64 0, .int .u64 0, .int .u64 0, .int .u64 0, .int .u64 0, .int .u64 0, .int .u64 0, .int .u64 0, .int .u64 0, .int .u64 0, .int .u64 0, .int .u64 0, .int .u64 0, .int .u64 0, .int .u64 0, .int .u64 0, .int .u64 0, .int .u64 0, .int .u64 0, .int .u64 0, .int .u64 0, .int .u64 0, .int .u64 0, .int .u64 0, .int .u64 0, .int .u64 0, .int .u64 0, .int .u64 0, .int .u64 0, .int .u64 0, .int .u64 0, .int .u64 0, .int .u64 0, .int .u64 0, .int .u64 0])).run Try.prog w = .ok () (w.setCells g o zl) := by
  rw [← zl_arr]
  have hs : zl.toArray.size = 48 := zl_len
  exact run_storeAt_mid (P := Try.prog) w g o 115 zl.toArray (by rw [hs]; exact h) (by rw [hs]; exact info_48) (all_oneCell_toArray zl_one)
theorem wpList_store_zl {w : World} {ops : Array Oper} {rest : List Oper} {o : Oper} {a : Act} {Q : Exit → Act → World → Prop} (hgd : o.guard = none) (x y : Operand) (ho : o.op = .store 115 x y) (g p : Nat) (hx : a.eval x = .pointer (some ⟨g, p, none⟩)) (hy : a.eval y = .agg #[.int .u64 0, .int .u64 0, .int .u64 0, .int .u64 0, .int .u64 0, .int .u64 0, .int .u64 0, .int .u64 0, .int .u64 0, .int .u64 0, .int .u64 0, .int .u64 0, .int .u64 0, .int .u64 0, .int .u64 0, .int .u64 0, .int .u64 0, .int .u64 0, .int .u64 0, .int .u64 0, .int .u64 0, .int .u64 0, .int .u64 0, .int .u64 0, .int .u64 0, .int .u64 0, .int .u64 0, .int .u64 0, .int .u64 0, .int .u64 0, .int .u64 0, .int .u64 0, .int .u64 0, .int .u64 0, .int .u64 0, .int .u64 0, .int .u64 0, .int .u64 0, .int .u64 0, .int .u64 0, .int .u64 0, .int .u64 0, .int .u64 0, .int .u64 0, .int .u64 0, .int .u64 0, .int .u64 0, .int .u64 0]) (ht : w.there g p 48)
    (h : wpList Try.prog ops Q rest (a.put o.dst undef) (w.setCells g p zl)) : wpList Try.prog ops Q (o :: rest) a w := by
  have hs : zl.toArray.size = 48 := zl_len
  refine wpList_store_mid hgd 115 x y ho g p zl.toArray hx (by rw [hy, zl_arr]) (by rw [hs]; exact ht) (by rw [hs]; exact info_48) (all_oneCell_toArray zl_one) ?_
  exact h
/-- What the thread's row is when a call has begun. -/
def Rt.begun (t : Rt) (n : Nat) (lab : Int) : Rt := { t with busy := true, call := n, pc := lab, R := zr t.R, bk := nilS }
set_option maxRecDepth 100000 in
set_option maxHeartbeats 4000000 in
theorem begin_two {W0 : World} (h : Rm W U q vc vl vs s) (ht : s.ths[i]? = some t) (hF : Fr W0 W U) {b3 : Nat} {op arg data : Int} (hx : W.heap[b3]? = some (.cells #[.int .i64 (i : Int), .int .i64 op, .int .i64 arg, .int .i64 data] 46 (0, 0))) (hU : ¬ U b3) (hl : s.cls.length ≤ 100000) {z1 z2 z4 z6 z7 z8 z9 z10 z11 z12 z13 z14 z15 z16 z17 z18 z19 z20 z21 z22 z23 z24 z25 z26 z27 z28 z29 z30 z31 z32 z33 z34 z35 z36 z37 z38 z39 z40 z41 z42 z43 z44 z45 z46 z47 z48 z49 z50 z51 z52 z53 z54 z55 z56 z57 z58 z59 z60 z61 z62 z63 z64 z65 z66 z67 z68 z69 z70 z71 z72 z73 z74 z75 z76 z77 z78 z79 z80 z81 z82 z83 z84 z85 z86 z87 z88 z89 z90 z91 z92 z93 z94 z95 z96 z97 z98 z99 z100 z101 z102 z103 z104 z105 z106 z107 z108 z109 z110 z111 z112 z113 z114 z115 : Value} {R : Array Value → World → Prop}
    (hQ : ∀ (tm : Array Value) (w' : World), tm[4]? = some (.bool true) → OutR W0 U q vs { s.put i { t with bk := nilS } with cls := s.cls ++ [⟨i, op, arg, data, s.n, -1, -1, 0, 0⟩] } w' → R tm w') :
    Code.wp Try.prog codeBG2 (onlyRet R) ⟨#[.pointer (some ⟨q.b, 0, none⟩), z1, z2, .pointer (some ⟨b3, 0, none⟩), z4, .pointer (some ⟨q.gt, i * 658, none⟩), z6, z7, z8, z9, z10, z11, z12, z13, z14, z15, z16, z17, z18, z19, z20, z21, z22, z23, z24, z25, z26, z27, z28, z29, z30, z31, z32, z33, z34, z35, z36, z37, z38, z39, z40, z41, z42, z43, z44, z45, z46, z47, z48, z49, z50, z51, z52, z53, z54, z55, z56, z57, z58, z59, z60, z61, z62, z63, z64, z65, z66, z67, z68, z69, z70, z71, z72, z73, z74, z75, z76, z77, z78, z79, z80, z81, z82, z83, z84, z85, z86, z87, z88, z89, z90, z91, z92, z93, z94, z95, z96, z97, z98, z99, z100, z101, z102, z103, z104, z105, z106, z107, z108, z109, z110, z111, z112, z113, z114, z115], []⟩ W := by
  have l1 := h.lt
  have l2 := h.gtl.2
  have t51 := h.tcell ht 51 (by decide) (rt_bk t)
  have f51 := h.tfrz (i * 658 + 51)
  have n3 : b3 ≠ q.gt := fun e => hU (by rw [e]; exact h.gtl.1)
  have h1 : Rm (W.setCell ⟨q.gt, i * 658 + 51, none⟩ nilS) U q vc vl vs (s.put i { t with bk := nilS }) := h.putT ht 51 (by decide) (rt_setBk t nilS)
  have F1 : Fr W (W.setCell ⟨q.gt, i * 658 + 51, none⟩ nilS) U := (Fr.refl W U).setCell _ _ (.inl h.gtl.1)
  have hx1 : (W.setCell ⟨q.gt, i * 658 + 51, none⟩ nilS).heap[b3]? = some (.cells #[.int .i64 (i : Int), .int .i64 op, .int .i64 arg, .int .i64 data] 46 (0, 0)) := (Below.heap_setCell _ _ _ _ n3).trans hx
  have F2 : Fr W0 (W.setCell ⟨q.gt, i * 658 + 51, none⟩ nilS) U := hF.trans (F1.mono (fun _ hk => .inl hk))
  unfold nilS at h1 F2 hx1
  replace h1 := Mr.hid h1
  replace F2 := Mr.hid F2
  replace hx1 := Mr.hid hx1
  replace h := Mr.hid h
  replace hQ := Mr.hid hQ
  replace hU := Mr.hid hU
  clear hx hF F1 ht
  unfold codeBG2 codeBG
  conv => arg 2; whnf
  apply wp_seq_k
  intro K hK1
  replace hK1 := Mr.hid hK1
  go_wp2
  refine hK1.out _ _ ?_
  exact begin_three h1.out F2.out hx1.out hU.out hl (fun tm w' h1 h2 => hQ.out tm w' h1 h2)
set_option maxRecDepth 100000 in
set_option maxHeartbeats 4000000 in
theorem begin_one {W0 : World} (h : Rm W U q vc vl vs s) (ht : s.ths[i]? = some t) (hF : Fr W0 W U) {b3 b7 : Nat} {op arg data eop nd : Int} {l : Nat} {lab : Int} (hx : W.heap[b3]? = some (.cells #[.int .i64 (i : Int), .int .i64 op, .int .i64 arg, .int .i64 data] 46 (0, 0))) (hU : ¬ U b3) (hy : W.heap[b7]? = some (.cells #[.int .i64 eop, .int .i64 (l : Int), .int .i64 nd] 114 (0, 0))) (hU7 : ¬ U b7) (hlab : q.labs[l]? = some lab) (hl : s.cls.length ≤ 100000) {z1 z2 z4 z6 z8 z9 z10 z11 z12 z13 z14 z15 z16 z17 z18 z19 z20 z21 z22 z23 z24 z25 z26 z27 z28 z29 z30 z31 z32 z33 z34 z35 z36 z37 z38 z39 z40 z41 z42 z43 z44 z45 z46 z47 z48 z49 z50 z51 z52 z53 z54 z55 z56 z57 z58 z59 z60 z61 z62 z63 z64 z65 z66 z67 z68 z69 z70 z71 z72 z73 z74 z75 z76 z77 z78 z79 z80 z81 z82 z83 z84 z85 z86 z87 z88 z89 z90 z91 z92 z93 z94 z95 z96 z97 z98 z99 z100 z101 z102 z103 z104 z105 z106 z107 z108 z109 z110 z111 z112 z113 z114 z115 : Value} {R : Array Value → World → Prop}
    (hQ : ∀ (tm : Array Value) (w' : World), tm[4]? = some (.bool true) → OutR W0 U q vs { s.put i (t.begun s.cls.length lab) with cls := s.cls ++ [⟨i, op, arg, data, s.n, -1, -1, 0, 0⟩] } w' → R tm w') :
    Code.wp Try.prog codeBG (onlyRet R) ⟨#[.pointer (some ⟨q.b, 0, none⟩), z1, z2, .pointer (some ⟨b3, 0, none⟩), z4, .pointer (some ⟨q.gt, i * 658, none⟩), z6, .pointer (some ⟨b7, 0, none⟩), z8, z9, z10, z11, z12, z13, z14, z15, z16, z17, z18, z19, z20, z21, z22, z23, z24, z25, z26, z27, z28, z29, z30, z31, z32, z33, z34, z35, z36, z37, z38, z39, z40, z41, z42, z43, z44, z45, z46, z47, z48, z49, z50, z51, z52, z53, z54, z55, z56, z57, z58, z59, z60, z61, z62, z63, z64, z65, z66, z67, z68, z69, z70, z71, z72, z73, z74, z75, z76, z77, z78, z79, z80, z81, z82, z83, z84, z85, z86, z87, z88, z89, z90, z91, z92, z93, z94, z95, z96, z97, z98, z99, z100, z101, z102, z103, z104, z105, z106, z107, z108, z109, z110, z111, z112, z113, z114, z115], []⟩ W := by
  obtain ⟨⟨x7, x8, x9, x10, x11⟩, x23, x24, x25, x26⟩ := h.cells
  have l1 := h.lt
  have l2 := h.gtl.2
  have l7 : b7 < W.heap.size := (Array.getElem?_eq_some_iff.1 hy).1
  have t0 := h.tcell ht 0 (by decide) (rt_busy t)
  rw [Nat.add_zero] at t0
  have t1 := h.tcell ht 1 (by decide) (rt_call t)
  have t2 := h.tcell ht 2 (by decide) (rt_pc t)
  have f2 := h.tfrz
  have ngb := h.gtb
  have ngb' := ngb.symm
  have n3 : b3 ≠ q.gt := fun e => hU (by rw [e]; exact h.gtl.1)
  have n7 : b7 ≠ q.gt := fun e => hU7 (by rw [e]; exact h.gtl.1)
  have n7' := n7.symm
  have c7 : W.cell? ⟨b7, 1, none⟩ = some (.int .i64 (l : Int)) := by simp [World.cell?, hy]
  obtain ⟨a, cap, hv, hle⟩ := h.cl.form
  subst hv
  have hll := (List.getElem?_eq_some_iff.1 hlab).1
  obtain ⟨gb, cb, hvb, hbU, hbl, hbn, hbx⟩ := h.lb.there (by omega)
  replace hbx : cb ≤ 9223372036854775807 := by unfold maxLen at hbx; omega
  have kl : W.cell? ⟨gb, l, none⟩ = some (.int .i64 lab) := h.lb.cells (g := gb) (by rw [hvb]; rfl) _ _ (by simp [nums, hlab])
  have nlt : gb ≠ q.gt := fun e => has_ne h.lb h.th (by decide) gb (by rw [hvb]; rfl) (by rw [e]; rfl)
  have nlt' := nlt.symm
  rw [hvb] at x9
  have hli : (l : Int) < (q.labs.length : Int) := by omega
  have h1 := h.putT ht 0 (by decide) (rt_setBusy t true)
  rw [Nat.add_zero] at h1
  have h2 := h1.putT (t := { t with busy := true }) (put_get s ht _) 1 (by decide) (rt_setCall { t with busy := true } (s.cls.length : Int))
  have h3 := h2.putT (i := i) (t := { t with busy := true, call := (s.cls.length : Int) }) (by simp [(List.getElem?_eq_some_iff.1 ht).1]) 2 (by decide) (rt_setPc { t with busy := true, call := (s.cls.length : Int) } lab)
  have h3' : Rm (((W.setCell ⟨q.gt, i * 658, none⟩ (.bool true)).setCell ⟨q.gt, i * 658 + 1, none⟩ (.int .i64 (s.cls.length : Int))).setCell ⟨q.gt, i * 658 + 2, none⟩ (.int .i64 lab)).drew U q (.slice a s.cls.length cap) vl vs (s.put i { t with busy := true, call := (s.cls.length : Int), pc := lab }) := by
    have := h3.below (Below.refl _ _).drew
    unfold Rs.put
    simpa using this
  have F3 : Fr W (((W.setCell ⟨q.gt, i * 658, none⟩ (.bool true)).setCell ⟨q.gt, i * 658 + 1, none⟩ (.int .i64 (s.cls.length : Int))).setCell ⟨q.gt, i * 658 + 2, none⟩ (.int .i64 lab)).drew U := ((((Fr.refl W U).setCell _ _ (.inl h.gtl.1)).setCell _ _ (.inl h.gtl.1)).setCell _ _ (.inl h.gtl.1)).drew
  have hx3 : (((W.setCell ⟨q.gt, i * 658, none⟩ (.bool true)).setCell ⟨q.gt, i * 658 + 1, none⟩ (.int .i64 (s.cls.length : Int))).setCell ⟨q.gt, i * 658 + 2, none⟩ (.int .i64 lab)).drew.heap[b3]? = some (.cells #[.int .i64 (i : Int), .int .i64 op, .int .i64 arg, .int .i64 data] 46 (0, 0)) := (Below.heap_setCell _ _ _ _ n3).trans ((Below.heap_setCell _ _ _ _ n3).trans ((Below.heap_setCell _ _ _ _ n3).trans hx))
  obtain ⟨h4, F4⟩ := h3'.zeroR (put_get s ht _)
  rw [put_put] at h4
  have hth := h3'.thereR (put_get s ht _)
  have hx4 : ((((W.setCell ⟨q.gt, i * 658, none⟩ (.bool true)).setCell ⟨q.gt, i * 658 + 1, none⟩ (.int .i64 (s.cls.length : Int))).setCell ⟨q.gt, i * 658 + 2, none⟩ (.int .i64 lab)).drew.setCells q.gt (i * 658 + 3) zl).heap[b3]? = some (.cells #[.int .i64 (i : Int), .int .i64 op, .int .i64 arg, .int .i64 data] 46 (0, 0)) := (F4.block b3 (Array.getElem?_eq_some_iff.1 hx3).1 hU).trans hx3
  have CC := (⟨h4, (hF.trans (F3.mono (fun _ hk => .inl hk))).trans (F4.mono (fun _ hk => .inl hk)), hx4⟩ : _ ∧ _ ∧ _)
  replace CC := Mr.hid CC
  replace hth := Mr.hid hth
  replace h := Mr.hid h
  replace hQ := Mr.hid hQ
  replace hU := Mr.hid hU
  replace ht := Mr.hid ht
  clear h1 h2 h3 h3' F3 hx3 h4 F4 hx4 hx hy hU7 hF hlab hvb
  unfold codeBG
  conv => arg 2; whnf
  go_wp2
  go_region
  go_upto_region 18 with fail
  rename (∀ (a : Act) (w : World), Code.wp _ (Code.seq _ _) _ a w → _) => hK1
  replace hK1 := Mr.hid hK1
  go_wp2_with (refine wpList_store_zl rfl (.tmp 89) (.tmp 87) rfl q.gt (i * 658 + 3) rfl rfl hth.out ?_)
  refine hK1.out _ _ ?_
  exact begin_two CC.out.1 (put_get s ht.out _) CC.out.2.1 CC.out.2.2 hU.out hl (fun tm w' h1 h2 => hQ.out tm w' h1 (by rw [put_put] at h2; exact h2))
end
end Go.Proofs.Ytglppcoohojmpaa.Rf
