import Derived.Test.YtglppcoohojmpaaRfJnP
import Derived.Deep.RegionHeld3
/-
  MachineJoins: its end.
-/
namespace Go.Proofs.Ytglppcoohojmpaa.Rf
open Go.RowKit Go.Shelf Mr Me Ma
set_option linter.unusedVariables false
noncomputable def codeJ11 : Code := tl 11 (Try.f3.body.getD .skip)
set_option maxRecDepth 100000 in
set_option maxHeartbeats 8000000 in
theorem joins_11 {w W : World} {Z : Nat → Prop} {g1 g2 : Nat} {Ka Kb Kc : Nat → Prop} {kma kmb kmc small n cap nm cm nth : Nat} {qa qb qc : Ph} {qw qp : Rc} {a am : Option Addr} {ws : List Int} {P1 P2 Pc : Pm} (h : Pe w W Z (.int .i64 (nth : Int)) (.slice a n cap) (.slice am nm cm) g1 g2 Ka Kb Kc kma kmb kmc n small qa qb qc qw qp P1 P2 Pc P1 P2) (hc : Ic Pc) (hcw : Pc.ws = ws) (hs : Src w a n cap ws) (hn : n ≤ 8192) {z0 z3 z4 z6 z8 z10 z11 z12 z15 z16 z17 z18 z19 z20 z21 z22 z23 z24 z25 z26 z27 z28 z29 z30 z31 z32 z33 z34 z35 z36 z37 z38 z39 z40 z41 z42 z43 z44 z45 z46 z47 z48 z49 z50 z51 z52 z53 z54 z55 z56 z57 z58 z59 z60 z61 z62 z63 z64 z65 z66 z67 z68 z69 z70 z71 z72 z73 z74 z75 z76 z77 z78 z79 z80 z81 z82 z83 z84 z85 z86 z87 z88 z89 z90 z91 z92 z93 z94 z95 z96 z97 z98 z99 z100 z101 z102 z103 z104 z105 z106 z107 z108 z109 z110 z111 z112 z113 z114 z115 z116 z117 z118 z119 z120 z121 z122 z123 z124 z125 z126 z127 z128 z129 z130 z131 z132 z133 z134 z135 z136 z137 z138 z139 z140 z141 z142 z143 z144 z145 z146 z147 z148 z149 z150 z151 z152 z153 z154 z155 z156 z157 z158 z159 z160 z161 z162 z163 z164 z165 z166 z167 z168 z169 z170 z171 z172 z173 z174 z175 z176 z177 z178 z179 z180 z181 z182 z183 z184 z185 z186 z187 z188 z189 z190 : Value} :
    Code.wp Try.prog codeJ11 (bodyPost Try.prog Try.f3 fun e w' => e = .returned (.bool true) ∧ Below w.heap.size w w') ⟨#[z0, .int .i64 (small : Int), .pointer (some ⟨w.heap.size, 0, none⟩), z3, z4, .pointer (some ⟨qa.b, 0, none⟩), z6, .pointer (some ⟨qb.b, 0, none⟩), z8, .pointer (some ⟨qc.b, 0, none⟩), z10, z11, z12, .pointer (some ⟨qw.b, 0, none⟩), .pointer (some ⟨qp.b, 0, none⟩), z15, z16, z17, z18, z19, z20, z21, z22, z23, z24, z25, z26, z27, z28, z29, z30, z31, z32, z33, z34, z35, z36, z37, z38, z39, z40, z41, z42, z43, z44, z45, z46, z47, z48, z49, z50, z51, z52, z53, z54, z55, z56, z57, z58, z59, z60, z61, z62, z63, z64, z65, z66, z67, z68, z69, z70, z71, z72, z73, z74, z75, z76, z77, z78, z79, z80, z81, z82, z83, z84, z85, z86, z87, z88, z89, z90, z91, z92, z93, z94, z95, z96, z97, z98, z99, z100, z101, z102, z103, z104, z105, z106, z107, z108, z109, z110, z111, z112, z113, z114, z115, z116, z117, z118, z119, z120, z121, z122, z123, z124, z125, z126, z127, z128, z129, z130, z131, z132, z133, z134, z135, z136, z137, z138, z139, z140, z141, z142, z143, z144, z145, z146, z147, z148, z149, z150, z151, z152, z153, z154, z155, z156, z157, z158, z159, z160, z161, z162, z163, z164, z165, z166, z167, z168, z169, z170, z171, z172, z173, z174, z175, z176, z177, z178, z179, z180, z181, z182, z183, z184, z185, z186, z187, z188, z189, z190], []⟩ W := by
  obtain ⟨U, e0, e1, e2, e3, e4, hav, hap⟩ := h.ex
  have wf1 := e3.s.2.1
  have wf2 := e4.s.2.1
  have wl1 := e3.s.2.2.1
  have wl2 := e4.s.2.2.1
  have n1a : P1.cls.length ≤ 1000000 := by have := wf1.cls; have := wf1.n; omega
  have n2a : P1.lg.length ≤ 1000000 := by have := wf1.lg; have := wf1.n; omega
  have n4a : P1.ws.length ≤ 1000000 := by omega
  have n1b : P2.cls.length ≤ 1000000 := by have := wf2.cls; have := wf2.n; omega
  have n2b : P2.lg.length ≤ 1000000 := by have := wf2.lg; have := wf2.n; omega
  have n4b : P2.ws.length ≤ 1000000 := by omega
  clear wf1 wf2 wl1 wl2 e0 e1 e2 e3 e4 hav hap U
  have RA := Mr.hid (fun (W' : World) (hB : Below W.heap.size W W') => pe_run_a (h.below hB))
  have RB := Mr.hid (fun (W' : World) (hB : Below W.heap.size W W') => pe_run_b (h.below hB))
  have RC := Mr.hid (fun (W' : World) (hB : Below W.heap.size W W') => pe_run_c (h.below hB))
  have RD := Mr.hid (fun (W' : World) (hB : Below W.heap.size W W') => pe_run_c (h.below hB))
  have TW := Mr.hid (fun (W' : World) (hB : Below W.heap.size W W') => pe_told_w (h.below hB))
  have TP := Mr.hid (fun (W' : World) (hB : Below W.heap.size W W') => pe_told_p (h.below hB))
  have FC := Mr.hid (fun (W' : World) (hB : Below W.heap.size W W') => (h.below hB).k.cells.2.1)
  have SW := Mr.hid (fun (W' : World) (hB : Below W.heap.size W W') (p : Option Addr) (c : Nat) (hh : Src W' p n c ws) => sameWS hh (hs.below (h.below hB).k.1) (by omega))
  have f1 := h.k.cells.2.1
  have hl := hs.1
  have hW := Mr.hid h.k.1
  have BC := Mr.hid (Below.refl W.heap.size W).drew
  have hcl := hc.2
  replace h := Mr.hid h
  replace hs := Mr.hid hs
  clear hc
  simp only [hcl, List.length_nil, hcw, ← hl] at RC RD
  have fl0 : ∀ (p1 p2 p4 : Option Addr) (n1 c1 n2 c2 n4 c4 : Nat) (W : World), (Instr.field 53 (.agg #[.slice p1 n1 c1, .slice p2 n2 c2, .slice none 0 0, .slice p4 n4 c4]) 0).run Try.prog W = .ok (.slice p1 n1 c1) W := fun _ _ _ _ _ _ _ _ _ _ => by kernel_rfl
  have fl3 : ∀ (p1 p2 p4 : Option Addr) (n1 c1 n2 c2 n4 c4 : Nat) (W : World), (Instr.field 53 (.agg #[.slice p1 n1 c1, .slice p2 n2 c2, .slice none 0 0, .slice p4 n4 c4]) 3).run Try.prog W = .ok (.slice p4 n4 c4) W := fun _ _ _ _ _ _ _ _ _ _ => by kernel_rfl
  have hll := Mr.hid hl
  clear hl
  replace hcl := Mr.hid hcl
  replace hcw := Mr.hid hcw
  unfold codeJ11
  conv => arg 2; whnf
  go_wp2
  go_region_held3 (fun w' => w'.cell? ⟨w.heap.size, 1, none⟩ = some (.slice a n cap)) (first | exact FC.out _ BC.out | go_keep)
    (first
      | (go_at_call 17; first
          | (refine (RA.out _ BC.out).mono ?_; clear RA; rintro e wa ⟨a1, a2, a4, rfl, ha1, ha2, ha4, hBy⟩; have BD := Mr.hid (BC.out.trans (hBy.mono BC.out.size)); clear hBy BC; have BC := BD; clear BD; obtain ⟨pa1, qa1, rfl, _⟩ := ha1.form; obtain ⟨pa2, qa2, rfl, _⟩ := ha2.form; obtain ⟨pa4, qa4, rfl, _⟩ := ha4.form; unfold runV; replace ha1 := Mr.hid ha1; replace ha2 := Mr.hid ha2; replace ha4 := Mr.hid ha4)
          | (refine (RB.out _ BC.out).mono ?_; clear RB; rintro e wb ⟨b1, b2, b4, rfl, hb1, hb2, hb4, hBy⟩; have BD := Mr.hid (BC.out.trans (hBy.mono BC.out.size)); clear hBy BC; have BC := BD; clear BD; obtain ⟨pb1, qb1, rfl, _⟩ := hb1.form; obtain ⟨pb2, qb2, rfl, _⟩ := hb2.form; obtain ⟨pb4, qb4, rfl, _⟩ := hb4.form; unfold runV; replace hb1 := Mr.hid hb1; replace hb2 := Mr.hid hb2; replace hb4 := Mr.hid hb4)
          | (refine (RC.out _ BC.out).mono ?_; clear RC; rintro e wc ⟨c1, c2, c4, rfl, hc1, hc2, hc4, hBy⟩; have BD := Mr.hid (BC.out.trans (hBy.mono BC.out.size)); clear hBy BC; have BC := BD; clear BD; obtain ⟨pc1, qc1, rfl, _⟩ := hc1.form; obtain ⟨pc2, qc2, rfl, _⟩ := hc2.form; obtain ⟨pc4, qc4, rfl, _⟩ := hc4.form; unfold runV; replace hc1 := Mr.hid hc1; replace hc2 := Mr.hid hc2; replace hc4 := Mr.hid hc4)
          | (refine (RD.out _ BC.out).mono ?_; clear RD; rintro e wd ⟨d1, d2, d4, rfl, hd1, hd2, hd4, hBy⟩; have BD := Mr.hid (BC.out.trans (hBy.mono BC.out.size)); clear hBy BC; have BC := BD; clear BD; obtain ⟨pd1, qd1, rfl, _⟩ := hd1.form; obtain ⟨pd2, qd2, rfl, _⟩ := hd2.form; obtain ⟨pd4, qd4, rfl, _⟩ := hd4.form; unfold runV; replace hd1 := Mr.hid hd1; replace hd2 := Mr.hid hd2; replace hd4 := Mr.hid hd4))
      | (go_at_call 18; first
          | (refine (TW.out _ BC.out).mono ?_; clear TW; rintro e ws ⟨s1, s2, s4, rfl, hs1, hs2, hs4, hBy⟩; have SRs := sameR (ha1.out.below hBy) hs1 n1a (ha2.out.below hBy) hs2 n2a (ha4.out.below hBy) hs4 n4a; unfold runV at SRs ⊢; have BD := Mr.hid (BC.out.trans (hBy.mono BC.out.size)); clear hBy BC hs1 hs2 hs4; have BC := BD; clear BD; replace SRs := Mr.hid SRs)
          | (refine (TP.out _ BC.out).mono ?_; clear TP; rintro e wt ⟨t1, t2, t4, rfl, ht1, ht2, ht4, hBy⟩; have SRt := sameR (hb1.out.below hBy) ht1 n1b (hb2.out.below hBy) ht2 n2b (hb4.out.below hBy) ht4 n4b; unfold runV at SRt ⊢; have BD := Mr.hid (BC.out.trans (hBy.mono BC.out.size)); clear hBy BC ht1 ht2 ht4; have BC := BD; clear BD; replace SRt := Mr.hid SRt))
      | (go_at_call 16; first
          | (refine SRs.out.mono ?_; clear SRs; rintro e wy ⟨rfl, hBy⟩; have BD := Mr.hid (BC.out.trans (hBy.mono BC.out.size)); clear hBy BC; have BC := BD; clear BD)
          | (refine SRt.out.mono ?_; clear SRt; rintro e wy ⟨rfl, hBy⟩; have BD := Mr.hid (BC.out.trans (hBy.mono BC.out.size)); clear hBy BC; have BC := BD; clear BD))
      | (go_at_call 19; refine (SW.out _ BC.out _ _ (src_has2 hd4.out hll.out)).mono ?_; rintro e wy ⟨rfl, hBy⟩; have BD := Mr.hid (BC.out.trans (hBy.mono BC.out.size)); clear hBy BC; have BC := BD; clear BD))
  all_goals go_wp2
  all_goals go_ret
  all_goals exact ⟨rfl, hW.out.trans (BC.out.mono hW.out.size)⟩
end Go.Proofs.Ytglppcoohojmpaa.Rf
