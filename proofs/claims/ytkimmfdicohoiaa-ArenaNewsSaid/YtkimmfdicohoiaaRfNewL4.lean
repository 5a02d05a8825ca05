import Derived.Test.YtkimmfdicohoiaaRfNew4
import Derived.BigQuiet
/-
  THE DOCUMENT's MACHINE: New, its labels.
-/
namespace Go.Proofs.Ytkimmfdicohoiaa.Rf
open Go.RowKit Mr Me Ma
noncomputable def codeL : Code := tl 2 (Try.f12.body.getD .skip)
def pad (L : List Int) (n : Nat) : List Int := L ++ List.replicate (n - L.length) 0
def labStep (L : List Int) (j : Nat) (I : Ins) : List Int := if I.kd = 10 then (pad L (I.a.toNat + 1)).set I.a.toNat (j : Int) else L
def labsOf (code : List Ins) : Nat → List Int
  | 0 => []
  | j + 1 => match code[j]? with
    | some I => labStep (labsOf code j) j I
    | none => labsOf code j
theorem pad_len (L : List Int) (n : Nat) : (pad L n).length = max L.length n := by simp [pad]; omega
theorem labs_len (code : List Ins) (h : ∀ I ∈ code, I.kd = 10 → I.a.toNat ≤ 1000) : ∀ j, (labsOf code j).length ≤ 1001
  | 0 => by simp [labsOf]
  | j + 1 => by
    have ih := labs_len code h j
    unfold labsOf
    cases hI : code[j]? with
    | none => exact ih
    | some I =>
      show (labStep _ j I).length ≤ _
      unfold labStep
      split
      · rename_i hk
        have := h I (List.mem_of_getElem? hI) hk
        rw [List.length_set, pad_len]
        omega
      · exact ih
theorem info_int : (Try.prog.info? 3).map (fun i => (i.zero, i.size, i.bytes)) = some (some (.int .i64 0), 1, 8) := by kernel_rfl
theorem nums_snoc (L : List Int) (x : Int) : nums (L ++ [x]) = nums L ++ [.int .i64 x] := by simp [nums]
theorem nums_set (L : List Int) (i : Nat) (x : Int) : nums (L.set i x) = (nums L).set i (.int .i64 x) := by simp [nums, List.map_set]
set_option maxRecDepth 100000 in
set_option maxHeartbeats 4000000 in
theorem new_labels {W0 W : World} {nt nr ns b b5 gd cd : Nat} {us c2 c3 c4 c6 : Int} {code : List Ins} {vw vcd ven : Value} {S : Nat → Prop} (hnt : nt ≤ 100000) (hnr : nr ≤ 100000) (hns : ns ≤ 100000) (hb5 : W.heap[b5]? = some (.cells #[.int .i64 (nt : Int), .int .i64 (nr : Int), .int .i64 c2, .int .i64 c3, .int .i64 c4, .int .i64 (ns : Int), .int .i64 c6] 23 (0, 0))) (hb : W.heap[b]? = some (.cells #[.int .i64 (nt : Int), .int .i64 (nr : Int), .int .i64 c2, .int .i64 c3, .int .i64 c4, .int .i64 (ns : Int), .int .i64 c6, vw, vcd, nilS, ven, nilS, nilS, nilS, nilS, u0, u0, u0, u0, u0, u0, u0, u0, .int .i64 0, nilS, nilS, nilS] 60 (0, 0))) (h0 : W0.heap.size ≤ b) (hB : Below W0.heap.size W0 W)
    (hcd : Has W0 S 74 6 (.slice (some ⟨gd, 0, none⟩) code.length cd) code.length (code.flatMap Ins.cells)) (hcode : ∀ I ∈ code, I.kd = 10 → ∃ l : Nat, I.a = l ∧ l ≤ 1000) {z0 z2 z4 z6 z7 z8 z9 z10 z12 z13 z14 z15 z16 z17 z18 z19 z20 z21 z22 z23 z24 z25 z26 z27 z28 z29 z30 z31 z32 z33 z34 z35 z36 z37 z38 z39 z40 z41 z42 z43 z44 z45 z46 z47 z48 z49 z50 z51 z52 z53 z54 z55 z56 z57 z58 z59 z60 z61 z62 z63 z64 z65 z66 z67 z68 z69 z70 z71 z72 z73 z74 z75 z76 z77 z78 z79 z80 z81 z82 z83 z84 z85 z86 z87 z88 z89 z90 z91 z92 z93 z94 z95 z96 z97 z98 z99 z100 z101 z102 z103 z104 z105 z106 z107 z108 z109 z110 z111 z112 z113 z114 z115 z116 z117 z118 z119 z120 : Value} {R : World → Prop}
    (hQ : ∀ (w' : World) (vt vst vho vli vlb : Value), Below W0.heap.size W0 w' → Fr W w' (fun k => k = b) → w'.heap[b]? = some (.cells #[.int .i64 (nt : Int), .int .i64 (nr : Int), .int .i64 c2, .int .i64 c3, .int .i64 c4, .int .i64 (ns : Int), .int .i64 c6, vw, vcd, vlb, ven, vt, vst, vho, vli, u0, u0, u0, u0, u0, u0, u0, u0, .int .i64 0, nilS, nilS, nilS] 60 (0, 0)) → Has w' (fun k => W.heap.size ≤ k) 3 1 vlb (labsOf code code.length).length (nums (labsOf code code.length)) → Has w' (fun k => W.heap.size ≤ k) 66 658 vt nt ((List.replicate nt rt0).flatMap Rt.cells) → Has w' (fun k => W.heap.size ≤ k) 38 1 vst ns (nums (stsOf us ns)) → Has w' (fun k => W.heap.size ≤ k) 3 1 vho ns (nums (List.replicate ns (-1))) → Has w' (fun k => W.heap.size ≤ k) 51 1 vli nr (List.replicate nr nilS) → (∀ k, vlb.ownBlock = some k → vho.ownBlock ≠ some k) → R w') :
    Code.wp Try.prog codeL (bodyPost Try.prog Try.f12 fun e w' => e = .returned (.pointer (some ⟨b, 0, none⟩)) ∧ R w') ⟨#[z0, .int .i64 us, z2, .slice (some ⟨gd, 0, none⟩) code.length cd, z4, .pointer (some ⟨b5, 0, none⟩), z6, z7, z8, z9, z10, .pointer (some ⟨b, 0, none⟩), z12, z13, z14, z15, z16, z17, z18, z19, z20, z21, z22, z23, z24, z25, z26, z27, z28, z29, z30, z31, z32, z33, z34, z35, z36, z37, z38, z39, z40, z41, z42, z43, z44, z45, z46, z47, z48, z49, z50, z51, z52, z53, z54, z55, z56, z57, z58, z59, z60, z61, z62, z63, z64, z65, z66, z67, z68, z69, z70, z71, z72, z73, z74, z75, z76, z77, z78, z79, z80, z81, z82, z83, z84, z85, z86, z87, z88, z89, z90, z91, z92, z93, z94, z95, z96, z97, z98, z99, z100, z101, z102, z103, z104, z105, z106, z107, z108, z109, z110, z111, z112, z113, z114, z115, z116, z117, z118, z119, z120], []⟩ W := by
  obtain ⟨i0, hi, hz0, hz1, hz2⟩ := info_parts info_int
  have hbl := (Array.getElem?_eq_some_iff.1 hb).1
  have h5l := (Array.getElem?_eq_some_iff.1 hb5).1
  have n5 : b5 ≠ b := fun e => by rw [e, hb] at hb5; simp at hb5
  have c5 : ∀ w' : World, Fr W w' (fun k => k = b) → w'.heap[b5]? = some (.cells #[.int .i64 (nt : Int), .int .i64 (nr : Int), .int .i64 c2, .int .i64 c3, .int .i64 c4, .int .i64 (ns : Int), .int .i64 c6] 23 (0, 0)) := fun w' hF => (hF.block b5 h5l n5).trans hb5
  have cb : ∀ (w' : World) (v : Value), w'.heap[b]? = some (.cells #[.int .i64 (nt : Int), .int .i64 (nr : Int), .int .i64 c2, .int .i64 c3, .int .i64 c4, .int .i64 (ns : Int), .int .i64 c6, vw, vcd, v, ven, nilS, nilS, nilS, nilS, u0, u0, u0, u0, u0, u0, u0, u0, .int .i64 0, nilS, nilS, nilS] 60 (0, 0)) → w'.cell? ⟨b, 9, none⟩ = some v ∧ w'.frozen? ⟨b, 9, none⟩ = false := fun w' v e => by simp [World.cell?, World.frozen?, e]
  have sb : ∀ (w' : World) (v v' : Value), w'.heap[b]? = some (.cells #[.int .i64 (nt : Int), .int .i64 (nr : Int), .int .i64 c2, .int .i64 c3, .int .i64 c4, .int .i64 (ns : Int), .int .i64 c6, vw, vcd, v, ven, nilS, nilS, nilS, nilS, u0, u0, u0, u0, u0, u0, u0, u0, .int .i64 0, nilS, nilS, nilS] 60 (0, 0)) → (w'.setCell ⟨b, 9, none⟩ v').heap[b]? = some (.cells #[.int .i64 (nt : Int), .int .i64 (nr : Int), .int .i64 c2, .int .i64 c3, .int .i64 c4, .int .i64 (ns : Int), .int .i64 c6, vw, vcd, v', ven, nilS, nilS, nilS, nilS, u0, u0, u0, u0, u0, u0, u0, u0, .int .i64 0, nilS, nilS, nilS] 60 (0, 0)) := fun w' v v' e => by rw [setBlk e]; rfl
  have hlen := labs_len code (fun I hI hk => by obtain ⟨l, e, hl⟩ := hcode I hI hk; rw [e]; simpa using hl)
  have hcl : code.length ≤ 9223372036854775807 := by
    by_cases e0 : code.length = 0
    · omega
    · obtain ⟨_, _, e, _, _, hn, hq⟩ := hcd.there (by omega)
      unfold maxLen at hq
      omega
  have hcc : ∀ (w' : World) (j : Nat) (I : Ins), Below W0.heap.size W0 w' → code[j]? = some I → (w'.cell? ⟨gd, j * 6, none⟩ = some (.int .i64 I.kd) ∧ w'.cell? ⟨gd, j * 6 + 1, none⟩ = some (.int .i64 I.a) ∧ w'.cell? ⟨gd, j * 6 + 2, none⟩ = some (.int .i64 I.b) ∧ w'.cell? ⟨gd, j * 6 + 3, none⟩ = some (.int .i64 I.c) ∧ w'.cell? ⟨gd, j * 6 + 4, none⟩ = some (.int .i64 I.d) ∧ w'.cell? ⟨gd, j * 6 + 5, none⟩ = some (.int .i64 I.to)) ∧ gd < w'.heap.size := fun w' j I hB hI => by
    have hgl := (hcd.lt gd rfl).2
    have hc : ∀ (p : Nat) (u : Value), p < 6 → I.cells[p]? = some u → w'.cell? ⟨gd, j * 6 + p, none⟩ = some u := fun p u hp hu => (hB.cell (p := ⟨gd, j * 6 + p, none⟩) hgl).trans (hcd.cells (g := gd) rfl _ _ (by rw [flat_get ins_len _ _ _ I hI hp]; exact hu))
    have e0 := hc 0 _ (by decide) rfl
    rw [Nat.add_zero] at e0
    exact ⟨⟨e0, hc 1 _ (by decide) rfl, hc 2 _ (by decide) rfl, hc 3 _ (by decide) rfl, hc 4 _ (by decide) rfl, hc 5 _ (by decide) rfl⟩, Nat.lt_of_lt_of_le hgl hB.size⟩
  replace c5 := Mr.hid c5
  replace cb := Mr.hid cb
  replace sb := Mr.hid sb
  replace hQ := Mr.hid hQ
  replace hB := Mr.hid hB
  replace hb5 := Mr.hid hb5
  replace hb := Mr.hid hb
  replace hcc := Mr.hid hcc
  replace hcode := Mr.hid hcode
  replace hlen := Mr.hid hlen
  clear hcd
  unfold codeL
  conv => arg 2; whnf
  go_wp2
  rename (∀ (a : Act) (w : World), Code.wp _ (Code.seq _ _) _ a w → _) => hK1
  replace hK1 := Mr.hid hK1
  go_loopg [27] code.length (fun k z wy => ∃ (j : Nat) (v : Value), z = .int .i64 (j : Int) ∧ j + k = code.length ∧ Below W0.heap.size W0 wy ∧ Fr W wy (fun k => k = b) ∧ wy.heap[b]? = some (.cells #[.int .i64 (nt : Int), .int .i64 (nr : Int), .int .i64 c2, .int .i64 c3, .int .i64 c4, .int .i64 (ns : Int), .int .i64 c6, vw, vcd, v, ven, nilS, nilS, nilS, nilS, u0, u0, u0, u0, u0, u0, u0, u0, .int .i64 0, nilS, nilS, nilS] 60 (0, 0)) ∧ Has wy (fun k => W.heap.size ≤ k) 3 1 v (labsOf code j).length (nums (labsOf code j)))
  case atStart => exact ⟨0, nilS, rfl, by omega, hB.out, Fr.refl _ _, hb.out, Has.nil _ _ _ _⟩
  case round =>
    obtain ⟨j, v, rfl, hjk, hBy, hFy, hby, hlb⟩ := hrel
    clear hB
    by_cases hj : j < code.length
    · obtain ⟨I, hI⟩ : ∃ I, code[j]? = some I := ⟨_, List.getElem?_eq_getElem hj⟩
      obtain ⟨⟨e0, e1, e2, e3, e4, e5⟩, lgd⟩ := hcc.out wr j I hBy hI
      have d0 : decide ((j : Int) < (code.length : Int)) = true := decide_eq_true (by omega)
      have hji : (j : Int) < (code.length : Int) := by omega
      have AL := fun (o : Obj) => (⟨hBy.alloc hBy.size o, hFy.alloc o, (Below.heap_alloc wr o b (by have := hFy.size; omega)).trans hby, hlb.alloc o⟩ : _ ∧ _ ∧ _ ∧ _)
      by_cases hk : I.kd = 10
      · have bk : (I.kd == 10) = true := by simpa using hk
        obtain ⟨l, hla, hll⟩ := hcode.out I (List.mem_of_getElem? hI) hk
        have hls : labsOf code (j + 1) = (pad (labsOf code j) (l + 1)).set l (j : Int) := by
          show (match code[j]? with | some I => labStep (labsOf code j) j I | none => labsOf code j) = _
          rw [hI]
          show labStep _ j I = _
          unfold labStep
          rw [if_pos hk, hla]
          rfl
        have hLj := hlen.out j
        rw [hla] at e1
        have A0 := AL (.cells #[.int .i64 I.kd, .int .i64 (l : Int), .int .i64 I.b, .int .i64 I.c, .int .i64 I.d, .int .i64 I.to] 74)
        have hx13 : (wr.alloc (.cells #[.int .i64 I.kd, .int .i64 (l : Int), .int .i64 I.b, .int .i64 I.c, .int .i64 I.d, .int .i64 I.to] 74)).heap[wr.heap.size]? = some (.cells #[.int .i64 I.kd, .int .i64 (l : Int), .int .i64 I.b, .int .i64 I.c, .int .i64 I.d, .int .i64 I.to] 74 (0, 0)) := heap_alloc_new wr _
        have n13 : b ≠ wr.heap.size := by have := hFy.size; omega
        have n13' := n13.symm
        have hsW := hFy.size
        clear AL
        replace A0 := Mr.hid A0
        replace hx13 := Mr.hid hx13
        replace hBy := Mr.hid hBy
        replace hFy := Mr.hid hFy
        replace hby := Mr.hid hby
        replace hlb := Mr.hid hlb
        replace hls := Mr.hid hls
        replace hla := Mr.hid hla
        replace hk := Mr.hid hk
        obtain ⟨gko, hgko⟩ : ∃ g, g = gk := ⟨_, rfl⟩
        obtain ⟨B13, hB13⟩ : ∃ B13, wr.heap.size = B13 := ⟨_, rfl⟩
        rw [hB13] at n13 n13' hx13
        generalize hL : labsOf code j = L at *
        replace hL := Mr.hid hL
        go_wp2
        replace hB13 := Mr.hid hB13
        go_loopg [] (l + 1 - L.length) (fun k wy => ∃ (i : Nat) (v : Value), i + k = l + 1 - L.length ∧ (Below W0.heap.size W0 wy ∧ Fr W wy (fun k => k = b) ∧ wy.heap[b]? = some (.cells #[.int .i64 (nt : Int), .int .i64 (nr : Int), .int .i64 c2, .int .i64 c3, .int .i64 c4, .int .i64 (ns : Int), .int .i64 c6, vw, vcd, v, ven, nilS, nilS, nilS, nilS, u0, u0, u0, u0, u0, u0, u0, u0, .int .i64 0, nilS, nilS, nilS] 60 (0, 0)) ∧ Has wy (fun k => W.heap.size ≤ k) 3 1 v (L.length + i) (nums (L ++ List.replicate i 0))) ∧ wy.heap[B13]? = some (.cells #[.int .i64 I.kd, .int .i64 (l : Int), .int .i64 I.b, .int .i64 I.c, .int .i64 I.d, .int .i64 I.to] 74 (0, 0)))
        case atStart =>
          obtain ⟨q1, q2, q3, q4⟩ := A0.out
          exact ⟨0, v, by omega, ⟨q1, q2, q3, by rw [List.replicate_zero, List.append_nil]; exact q4⟩, hx13.out⟩
        case round =>
          obtain ⟨i, v', hik, ⟨q1, q2, q3, q4⟩, q5⟩ := hrel
          clear A0 hx13
          obtain ⟨x9, f9⟩ := cb.out wr v' q3
          obtain ⟨av, cv, hv, hcv⟩ := q4.form
          subst hv
          have y1 : wr.cell? ⟨B13, 1, none⟩ = some (.int .i64 (l : Int)) := by simp [World.cell?, q5]
          have lb : b < wr.heap.size := (Array.getElem?_eq_some_iff.1 q3).1
          have l13 : B13 < wr.heap.size := (Array.getElem?_eq_some_iff.1 q5).1
          by_cases hlt : L.length + i ≤ l
          · have d1 : decide ((L.length : Int) + (i : Int) ≤ (l : Int)) = true := decide_eq_true (by omega)
            have d2 : decide (L.length + i ≤ l) = true := decide_eq_true hlt
            have law := fun (w0 : World) (hB : Below wr.heap.size wr w0) => (q4.below hB)
            have news := newsAt wr.drew _ #[.int .i64 0] 3 wr.heap.size rfl rfl
            have hst : W.heap.size ≤ wr.heap.size := q2.size
            have FN := fun (w1 : World) (g cap' : Nat) (hown : Has w1 (fun k => W.heap.size ≤ k) 3 1 (.slice (some ⟨g, 0, none⟩) (L.length + i + 1) cap') (L.length + i + 1) (nums (L ++ List.replicate i 0) ++ [.int .i64 0])) (hgrow : (wr.drew.alloc (.cells #[.int .i64 0] 3)).grownBy w1 (Value.slice av (L.length + i) cv).ownBlock) => (show (w1.cell? ⟨b, 9, none⟩ = some (.slice av (L.length + i) cv) ∧ w1.frozen? ⟨b, 9, none⟩ = false) ∧ (Below W0.heap.size W0 (w1.setCell ⟨b, 9, none⟩ (.slice (some ⟨g, 0, none⟩) (L.length + i + 1) cap')) ∧ Fr W (w1.setCell ⟨b, 9, none⟩ (.slice (some ⟨g, 0, none⟩) (L.length + i + 1) cap')) (fun k => k = b) ∧ (w1.setCell ⟨b, 9, none⟩ (.slice (some ⟨g, 0, none⟩) (L.length + i + 1) cap')).heap[b]? = some (.cells #[.int .i64 (nt : Int), .int .i64 (nr : Int), .int .i64 c2, .int .i64 c3, .int .i64 c4, .int .i64 (ns : Int), .int .i64 c6, vw, vcd, (.slice (some ⟨g, 0, none⟩) (L.length + i + 1) cap'), ven, nilS, nilS, nilS, nilS, u0, u0, u0, u0, u0, u0, u0, u0, .int .i64 0, nilS, nilS, nilS] 60 (0, 0)) ∧ Has (w1.setCell ⟨b, 9, none⟩ (.slice (some ⟨g, 0, none⟩) (L.length + i + 1) cap')) (fun k => W.heap.size ≤ k) 3 1 (.slice (some ⟨g, 0, none⟩) (L.length + i + 1) cap') (L.length + (i + 1)) (nums (L ++ List.replicate (i + 1) 0))) ∧ (w1.setCell ⟨b, 9, none⟩ (.slice (some ⟨g, 0, none⟩) (L.length + i + 1) cap')).heap[B13]? = some (.cells #[.int .i64 I.kd, .int .i64 (l : Int), .int .i64 I.b, .int .i64 I.c, .int .i64 I.d, .int .i64 I.to] 74 (0, 0)) from by
              have nvb : (Value.slice av (L.length + i) cv).ownBlock ≠ some b := not_row q3 q4 (by decide)
              have nv13 : (Value.slice av (L.length + i) cv).ownBlock ≠ some B13 := not_row q5 q4 (by decide)
              have kb := (hgrow.block b (by simp; omega) (fun e => nvb e.symm)).trans ((Below.heap_alloc wr.drew _ _ lb).trans q3)
              have k13 := (hgrow.block B13 (by simp; omega) (fun e => nv13 e.symm)).trans ((Below.heap_alloc wr.drew _ _ l13).trans q5)
              have nvb' : (Value.slice (some ⟨g, 0, none⟩) (L.length + i + 1) cap').ownBlock ≠ some b := not_row kb hown (by decide)
              have hBa : Below W0.heap.size W0 (wr.drew.alloc (.cells #[.int .i64 0] 3)) := q1.drew.alloc q1.size _
              have hBg : Below W0.heap.size W0 w1 := hBa.grown hgrow (by have := q1.size; simp; omega) (fun k hk => by have := (q4.lt k hk).1; omega)
              have hFa : Fr W (wr.drew.alloc (.cells #[.int .i64 0] 3)) (fun k => k = b) := q2.drew.alloc _
              refine ⟨cb.out w1 _ kb, ⟨hBg.setCell (p := ⟨b, 9, none⟩) h0 _, (hFa.grown hgrow (fun k hk => .inr (q4.lt k hk).1)).setCell _ _ (.inl rfl), sb.out w1 _ _ kb, ?_⟩, (Below.heap_setCell _ _ _ _ n13').trans k13⟩
              have e : nums (L ++ List.replicate (i + 1) 0) = nums (L ++ List.replicate i 0) ++ [.int .i64 0] := by rw [List.replicate_succ', ← List.append_assoc, nums_snoc]
              rw [e]
              exact hown.setCell _ _ nvb')
            replace FN := Mr.hid FN
            replace q1 := Mr.hid q1
            replace q2 := Mr.hid q2
            replace q3 := Mr.hid q3
            replace q4 := Mr.hid q4
            replace q5 := Mr.hid q5
            have lawD := Mr.hid (law (wr.drew.alloc (.cells #[.int .i64 0] 3)) ((Below.refl _ _).drew.alloc (Nat.le_refl _) _))
            replace news := Mr.hid news
            clear law
            go_wp2
            go_region
            go_wp2_with (first
              | (at_builtin; refine wpList_append_has _ rfl (.tmp 47) (.tmp 48) 51 rfl (fun k => W.heap.size ≤ k) 3 i0 _ 1 8 Try.underlying51 hi hz0 hz1 hz2 rfl (.slice av (L.length + i) cv) (L.length + i) (nums (L ++ List.replicate i 0)) rfl lawD.out ⟨wr.heap.size, 0, none⟩ 1 1 [.int .i64 0] rfl rfl news.out (by simp [Value.oneCell']) (by omega) (by unfold maxLen; omega) (by omega) (by simp; omega) ?_; intro g cap' w1 hown hgrow hat; obtain ⟨⟨k1, k2⟩, F9, F8⟩ := FN.out w1 g cap' hown hgrow; clear FN hown hgrow hat; replace F9 := Mr.hid F9; replace F8 := Mr.hid F8))
            go_roundg (gk - 1)
            case measure => omega
            case rel => exact ⟨i + 1, _, by omega, F9.out, F8.out⟩
          · have d1 : decide ((L.length : Int) + (i : Int) ≤ (l : Int)) = false := decide_eq_false (by omega)
            have d2 : decide (L.length + i ≤ l) = false := decide_eq_false hlt
            have hpad : L ++ List.replicate i 0 = pad L (l + 1) := by
              unfold pad
              have : i = l + 1 - L.length := by omega
              rw [this]
            obtain ⟨gl, cl', hvl, hgl1, hgl2, hgl3, hgl4⟩ := q4.there (by omega)
            cases hvl
            replace hgl4 : cv ≤ 9223372036854775807 := by unfold maxLen at hgl4; omega
            have hli : (l : Int) < (L.length : Int) + (i : Int) := by omega
            have kl : ∃ u, wr.cell? ⟨gl, l, none⟩ = some u := by
              obtain ⟨u, hu⟩ : ∃ u, (nums (L ++ List.replicate i 0))[l]? = some u := ⟨_, List.getElem?_eq_getElem (by simp [nums]; omega)⟩
              exact ⟨u, q4.cells (g := gl) rfl _ _ hu⟩
            obtain ⟨ul, hul⟩ := kl
            have fl := q4.frozen (g := gl) rfl l
            have ngb : gl ≠ b := fun e => not_row q3 q4 (by decide) (by rw [e]; rfl)
            have ngb' := ngb.symm
            have ng13 : gl ≠ B13 := fun e => not_row q5 q4 (by decide) (by rw [e]; rfl)
            have ng13' := ng13.symm
            have hj1 : ∀ w1 : World, Below (wr.setCell ⟨gl, l, none⟩ (.int .i64 (j : Int))).heap.size (wr.setCell ⟨gl, l, none⟩ (.int .i64 (j : Int))) w1 → Below W0.heap.size W0 w1 ∧ Fr W w1 (fun k => k = b) ∧ w1.heap[b]? = some (.cells #[.int .i64 (nt : Int), .int .i64 (nr : Int), .int .i64 c2, .int .i64 c3, .int .i64 c4, .int .i64 (ns : Int), .int .i64 c6, vw, vcd, (.slice (some ⟨gl, 0, none⟩) (L.length + i) cv), ven, nilS, nilS, nilS, nilS, u0, u0, u0, u0, u0, u0, u0, u0, .int .i64 0, nilS, nilS, nilS] 60 (0, 0)) ∧ Has w1 (fun k => W.heap.size ≤ k) 3 1 (.slice (some ⟨gl, 0, none⟩) (L.length + i) cv) (labsOf code (j + 1)).length (nums (labsOf code (j + 1))) := fun w1 hB1 => by
              have s1 : (wr.setCell ⟨gl, l, none⟩ (.int .i64 (j : Int))).heap.size = wr.heap.size := by simp [World.setCell]
              have b1 : Below W0.heap.size W0 (wr.setCell ⟨gl, l, none⟩ (.int .i64 (j : Int))) := q1.setCell (p := ⟨gl, l, none⟩) (by show W0.heap.size ≤ gl; have := hgl1; omega) _
              have f1 : Fr W (wr.setCell ⟨gl, l, none⟩ (.int .i64 (j : Int))) (fun k => k = b) := q2.setCell _ _ (.inr hgl1)
              have k1 := (Below.heap_setCell wr ⟨gl, l, none⟩ (.int .i64 (j : Int)) b ngb').trans q3
              have hp := has_put q4 l (.int .i64 (j : Int))
              rw [← nums_set, hpad] at hp
              have hlen2 : ((pad L (l + 1)).set l (j : Int)).length = L.length + i := by rw [List.length_set, ← hpad]; simp
              refine ⟨b1.trans (hB1.mono b1.size), f1.trans (Fr.of_below hB1), (hB1.block b (by rw [s1]; exact lb)).trans k1, ?_⟩
              rw [hls.out, hlen2]
              exact hp.below hB1
            replace hj1 := Mr.hid hj1
            replace q1 := Mr.hid q1
            replace q2 := Mr.hid q2
            replace q3 := Mr.hid q3
            replace q4 := Mr.hid q4
            replace q5 := Mr.hid q5
            replace hpad := Mr.hid hpad
            go_wp2
            go_region
            go_wp2
            go_region
            go_wp2
            go_roundg (gko - 1)
            case measure => omega
            case rel => exact ⟨j + 1, _, by simp, by omega, hj1.out _ (by first | exact (Below.refl _ _).drew.drew | exact (Below.refl _ _).drew)⟩
      · have bk : (I.kd == 10) = false := by simpa using hk
        have hls : labsOf code (j + 1) = labsOf code j := by
          show (match code[j]? with | some I => labStep (labsOf code j) j I | none => labsOf code j) = _
          rw [hI]
          show labStep _ j I = _
          unfold labStep
          rw [if_neg hk]
        rw [← hls] at AL
        replace AL := Mr.hid AL
        replace hBy := Mr.hid hBy
        replace hFy := Mr.hid hFy
        replace hby := Mr.hid hby
        replace hlb := Mr.hid hlb
        replace hls := Mr.hid hls
        clear hk
        go_wp2
        go_roundg (gk - 1)
        case measure => omega
        case rel => exact ⟨j + 1, v, by simp, by omega, AL.out _⟩
    · have d0 : decide ((j : Int) < (code.length : Int)) = false := decide_eq_false (by omega)
      obtain rfl : j = code.length := by omega
      replace hBy := Mr.hid hBy
      replace hFy := Mr.hid hFy
      replace hby := Mr.hid hby
      replace hlb := Mr.hid hlb
      go_wp2
      refine hK1.out _ _ ?_
      refine new_thr hnt hnr hns (c5.out wr hFy.out) hby.out h0 hBy.out (fun w' vt vst vho vli g1 g2 g3 g4 g5 g6 g7 => ?_)
      have hsz := hFy.out.size
      have nvb : v.ownBlock ≠ some b := not_row hby.out hlb.out (by decide)
      exact hQ.out w' vt vst vho vli v g1 (hFy.out.trans (g2.mono (fun _ hk => .inl hk))) g3 (hlb.out.kept (fun k hk => g2.block k (hlb.out.lt k hk).2 (fun e => nvb (by rw [hk, e]))) (fun k hk => (hlb.out.lt k hk).1)) (g4.mono (fun k hk => by omega)) (g5.mono (fun k hk => by omega)) (g6.mono (fun k hk => by omega)) (g7.mono (fun k hk => by omega)) (fun k h1 h2 => by have := (hlb.out.lt k h1).2; have := (g6.lt k h2).1; omega)
end Go.Proofs.Ytkimmfdicohoiaa.Rf
