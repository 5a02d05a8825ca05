import Derived.Test.YtkfpiafgfjpodabGreatArAgainR
import Derived.Test.YtkfpiafgfjpodabGreatJ40
import Derived.Deep.Cut
import Derived.Deep.DeepCutAuto
import Derived.BigQuiet
/-
  ArenaAgain: the walk's last part: all slots are taken anew.
-/
namespace Go.Proofs.YtkfpiafgfjpodabGreat.Ar
open Go.RowKit Go.Shelf Mr Me Ma Wc Wm Wr
theorem RA.set {W : World} {U K : Nat → Prop} {f : Fx} {h : Wh} {P : Pa} (hR : RA W U K f h P) (p : Addr) (v : Value) (hU : ¬ U p.block) (hK : ¬ K p.block) : RA (W.setCell p v) U K f h P := by
  have hb : ∀ k, k ≠ p.block → (W.setCell p v).heap[k]? = W.heap[k]? := fun k hk => Below.heap_setCell _ _ _ k hk
  have hTU : ∀ k, h.T k → U k := fun k hk => hR.x0 k (.inl hk)
  have hne : ∀ k, U k → k ≠ p.block := fun k hk e => hU (by rw [← e]; exact hk)
  have hsz : (W.setCell p v).heap.size = W.heap.size := by simp [World.setCell]
  refine ⟨⟨fun k o ho => ?_, hR.mch.2.kept (fun k hk => hb k (hne k hk)) (fun _ hk => hk) (fun k hk => by rw [hsz]; exact hR.mch.2.ul k hk)⟩, fun k hk => by rw [hsz]; exact hR.tl k hk, hR.ar.kept (fun k hk => hb k (hne k (hTU k hk))) (fun _ h => h), fun i t ht => (hR.tob i t ht).kept (fun k hk _ => hb k (hne k (hTU k hk))) (fun _ h => h), hR.dj, hR.ah, hR.kt.kept (fun k hk => hb k (fun e => hK (by rw [← e]; exact hk))), fun k hk => ⟨(hR.ku k hk).1, by rw [hsz]; exact (hR.ku k hk).2⟩, hR.inv, hR.m, hR.ck, hR.K, hR.vk⟩
  have := hR.mch.1 k o ⟨ho.1, (hb k (hne k (hTU k ho.1))).symm.trans ho.2⟩
  exact ⟨ho.2, this.2⟩
theorem Tb.set {w W : World} {c : Cf} {tb : Nat} {U K : Nat → Prop} {f : Fx} {h : Wh} {P : Pa} (t : Tb w W c tb U K f h P) (p : Addr) (v : Value) (hU : ¬ U p.block) (hK : ¬ K p.block) (h1 : w.heap.size < p.block) (h2 : p.block ≠ tb) : Tb w (W.setCell p v) c tb U K f h P :=
  ⟨t.ra.set p v hU hK, (Below.heap_setCell _ _ _ _ (by omega)).trans t.s0, (Below.heap_setCell _ _ _ _ (fun e => h2 e.symm)).trans t.bt, t.up, t.lt, t.bel.setCell (p := p) (by omega) v, t.fc⟩
/-- A move, and what is beside it. -/
theorem Tb.outs {w W W' : World} {c : Cf} {tb : Nat} {U K : Nat → Prop} {f : Fx} {h : Wh} {P : Pa} (t : Tb w W c tb U K f h P) {P' : Pa} (hO : OutA W U K f P' W') : ∃ U' h', Tb w W' c tb U' K f h' P' ∧ (∀ k, U k → U' k) ∧ (∀ k, U' k → U k ∨ W.heap.size ≤ k) ∧ Fr W W' U := by
  obtain ⟨U', h', o1, o2, o3, o4⟩ := hO
  have hs := t.size
  have hl := t.lt
  refine ⟨U', h', ⟨o1, (o4.block _ (by omega) (fun hk => by have := (t.up _ hk).1; omega)).trans t.s0, (o4.block _ hs (fun hk => (t.up _ hk).2 rfl)).trans t.bt, fun k hk => ?_, hl, t.bel.trans (o4.below (fun k hk => Nat.le_of_lt (t.up k hk).1) (by omega)), t.fc⟩, o2, o3, o4⟩
  rcases o3 k hk with h1 | h1
  · exact t.up k h1
  · exact ⟨by omega, by omega⟩
/-- A move, and the thread is stepped to its end. -/
theorem rest_after {w W w5 : World} {c : Cf} {tb : Nat} {U K : Nat → Prop} {f : Fx} {h : Wh} {P P1 : Pa} (T : Tb w W c tb U K f h P) (hO : OutA W U K f P1 w5) (hn : 0 < P1.A.sl.length) (i : Nat) :
    Calls Tryz.prog 8 #[.pointer (some ⟨tb, 0, none⟩), .int .i64 (i : Int)] w5 fun e w' => e = .returned (.tuple #[]) ∧ OutA W U K f (restP 400 P1 i) w' := by
  obtain ⟨U', h', T', o1, o2, o3⟩ := T.outs hO
  refine (rest_any T' hn i).mono ?_
  rintro e w' ⟨rfl, h2⟩
  exact ⟨rfl, OutA.more o1 o2 o3 h2⟩
def bools (l : List Bool) : List Value := l.map Value.bool
/-- What is behind the first n statements of a row of them. -/
def tl : Nat → Code → Code
  | n + 1, .seq _ b => tl n b
  | _, c => c
/-- The law from its last loop on. -/
noncomputable def codeC : Code := tl 10 (Tryz.f3.body.getD .skip)
/-- The law from the loop over the slots on. -/
noncomputable def codeB : Code := tl 6 (Tryz.f3.body.getD .skip)
set_option maxRecDepth 100000 in
set_option maxHeartbeats 8000000 in
theorem again_C {w wc : World} {c : Cf} {n nt : Nat} (h5 : c.a5 = n) (hn0 : 0 < n) (hnt : 0 < nt) {tb : Nat} {U K : Nat → Prop} {f : Fx} {h : Wh} {P : Pa} (T : Tb w wc c tb U K f h P) (G : G4 P n nt 0) {gs : Nat} (hg1 : w.heap.size < gs) (hg2 : gs ≠ tb) (hg3 : ¬ U gs) (hg4 : ¬ K gs) (hv : Has wc (fun k => k = gs) 4 1 (.slice (some ⟨gs, 0, none⟩) n n) n (bools (seenL P.A)))
    {s0 s1 s3 s4 s6 s7 s8 s9 s10 s11 s12 s14 s15 s16 s17 s18 s19 s20 s21 s22 s23 s24 s25 s26 s27 s28 s29 s30 s31 s32 s33 s34 s35 s36 s37 s38 s39 s40 s41 s42 s43 s44 s45 s46 s47 s48 s49 s50 s51 s52 s53 s54 s55 s56 s57 s58 s59 s60 s61 s62 s63 s64 s65 s66 s67 s68 s69 s70 s71 s72 s73 s74 s75 s76 s77 s78 s79 s80 s81 s82 s83 s84 s85 s86 s87 s88 s89 s90 s91 s92 s93 s94 s95 s96 s97 s98 s99 s100 s101 s102 s103 s104 s105 s106 s107 s108 s109 s110 s111 s112 s113 s114 s115 s116 s117 s118 s119 s120 s121 s122 s123 s124 s125 s126 s127 s128 s129 s130 s131 s132 s133 s134 s135 s136 s137 s138 s139 s140 s141 s142 s143 s144 s145 s146 s147 s148 s149 s150 s151 s152 s153 s154 s155 s156 s157 s158 s159 s160 s161 s162 s163 s164 s165 s166 s167 s168 s169 s170 s171 s172 s173 s174 s175 s176 s177 s178 s179 s180 s181 s182 s183 s184 s185 s186 s187 s188 : Value} :
    Code.wp Tryz.prog codeC (bodyPost Tryz.prog Tryz.f3 fun e w' => e = .returned (.bool true) ∧ Below w.heap.size w w') ⟨#[s0, s1, .pointer (some ⟨w.heap.size, 0, none⟩), s3, s4, .pointer (some ⟨tb, 0, none⟩), s6, s7, s8, s9, s10, s11, s12, .slice (some ⟨gs, 0, none⟩) n n, s14, s15, s16, s17, s18, s19, s20, s21, s22, s23, s24, s25, s26, s27, s28, s29, s30, s31, s32, s33, s34, s35, s36, s37, s38, s39, s40, s41, s42, s43, s44, s45, s46, s47, s48, s49, s50, s51, s52, s53, s54, s55, s56, s57, s58, s59, s60, s61, s62, s63, s64, s65, s66, s67, s68, s69, s70, s71, s72, s73, s74, s75, s76, s77, s78, s79, s80, s81, s82, s83, s84, s85, s86, s87, s88, s89, s90, s91, s92, s93, s94, s95, s96, s97, s98, s99, s100, s101, s102, s103, s104, s105, s106, s107, s108, s109, s110, s111, s112, s113, s114, s115, s116, s117, s118, s119, s120, s121, s122, s123, s124, s125, s126, s127, s128, s129, s130, s131, s132, s133, s134, s135, s136, s137, s138, s139, s140, s141, s142, s143, s144, s145, s146, s147, s148, s149, s150, s151, s152, s153, s154, s155, s156, s157, s158, s159, s160, s161, s162, s163, s164, s165, s166, s167, s168, s169, s170, s171, s172, s173, s174, s175, s176, s177, s178, s179, s180, s181, s182, s183, s184, s185, s186, s187, s188], []⟩ wc := by
  replace h5 := Mr.hid h5
  replace hn0 := Mr.hid hn0
  replace hnt := Mr.hid hnt
  replace T := Mr.hid T
  replace G := Mr.hid G
  replace hg3 := Mr.hid hg3
  replace hg4 := Mr.hid hg4
  replace hv := Mr.hid hv
  unfold codeC
  conv => arg 2; whnf
  go_wp2
  go_loopg [14] (n + 1) (fun k s wy => ∃ (j : Nat) (U' : Nat → Prop) (h' : Wh) (P' : Pa), s = .int .i64 (j : Int) ∧ j + k = n + 1 ∧ j ≤ n ∧ Tb w wy c tb U' K f h' P' ∧ G4 P' n nt j ∧ ¬ U' gs ∧ Has wy (fun k => k = gs) 4 1 (.slice (some ⟨gs, 0, none⟩) n n) n (bools (seenL P'.A)))
  case atStart => exact ⟨0, U, h, P, rfl, by omega, by omega, T.out, G.out, hg3.out, hv.out⟩
  case round =>
    obtain ⟨j, U', h', P', rfl, hjk, hjn, T1, G1, hng, hv1⟩ := hrel
    clear T G hg3 hv
    have hsl := G1.1.ns
    obtain ⟨x, hx, hcv, hcase⟩ := G1.take hjn hnt.out
    have hsl1 : (P'.move 0 10 0 0).1.A.sl.length = n := (move_sl P' G1.1.inv 0 10 0 0).trans hsl
    obtain ⟨⟨y0, y1, y2, y3, y4, y5, y6⟩, x7, x8⟩ := T1.cells
    rw [h5.out] at y5
    have l1 := T1.size
    have l2 := T1.lt
    have lg := (hv1.lt gs rfl).2
    have hI1 := T1.ra.inv
    have hMg : n ≤ maxLen := by
      obtain ⟨_, _, e, _, _, _, hq⟩ := hv1.there (by have := hn0.out; omega)
      cases e
      exact hq
    unfold maxLen at hMg
    have MV := move_arena T1.ra (by rw [hsl]; exact hn0.out) 0 10 0 0
    have RS := fun (w5 : World) (hO : OutA wr U' K f (P'.move 0 10 0 0).1 w5) => rest_after T1 hO (by rw [hsl1]; exact hn0.out) 0
    have CA := fun (w6 : World) (hO : OutA wr U' K f (restP 400 (P'.move 0 10 0 0).1 0) w6) => (show Calls Tryz.prog 11 #[.pointer (some ⟨f.q.b, 0, none⟩), .int .i64 0] w6 fun e w' => e = .returned (.tuple #[x.val, .bool true]) ∧ ∃ U'' h'', Tb w w' c tb U'' K f h'' (restP 400 (P'.move 0 10 0 0).1 0) ∧ ¬ U'' gs ∧ Has w' (fun k => k = gs) 4 1 (.slice (some ⟨gs, 0, none⟩) n n) n (bools (seenL P'.A)) from by
      obtain ⟨U'', h'', T2, o1, o2, o3⟩ := T1.outs hO
      have hx' : callI (restP 400 (P'.move 0 10 0 0).1 0) 0 = some x := by simp [callI, hx]
      have := call_any T2.ra hcv 0
      rw [hx'] at this
      refine this.mono ?_
      rintro e w' ⟨rfl, hB⟩
      refine ⟨rfl, U'', h'', T2.below hB, fun hu => ?_, (hv1.fr o3 (fun k hk _ => by rw [hk]; exact hng)).below hB⟩
      rcases o2 gs hu with e | e
      · exact hng e
      · omega)
    have TC := fun (w6 : World) (hO : OutA wr U' K f (P'.move 0 10 0 0).1 w6) => (show w6.cell? ⟨tb, 8, none⟩ = some (.pointer (some ⟨f.q.b, 0, none⟩)) from by
      obtain ⟨U'', h'', T2, o1, o2, o3⟩ := T1.outs hO
      exact T2.cells.2.2)
    have TD := fun (w6 : World) (hO : OutA wr U' K f (restP 400 (P'.move 0 10 0 0).1 0) w6) => (show w6.cell? ⟨tb, 8, none⟩ = some (.pointer (some ⟨f.q.b, 0, none⟩)) from by
      obtain ⟨U'', h'', T2, o1, o2, o3⟩ := T1.outs hO
      exact T2.cells.2.2)
    have d0 : decide ((j : Int) ≤ (n : Int)) = true := decide_eq_true (by omega)
    clear hx hcv hI1
    generalize (P'.move 0 10 0 0) = PM at *
    generalize restP 400 PM.1 0 = PR at *
    replace T1 := Mr.hid T1
    replace hv1 := Mr.hid hv1
    replace hng := Mr.hid hng
    replace G1 := Mr.hid G1
    replace MV := Mr.hid MV
    replace RS := Mr.hid RS
    replace CA := Mr.hid CA
    replace TC := Mr.hid TC
    replace TD := Mr.hid TD
    replace hsl := Mr.hid hsl
    replace hsl1 := Mr.hid hsl1
    obtain ⟨th, op, arg, data, beg, fin, pt, ak, av⟩ := x
    rcases hcase with ⟨hlt, hak, s, hav, hs, hse, G2, hse2⟩ | ⟨hje, hak⟩
    · simp only at hak hav
      subst hak hav
      have d1 : decide ((j : Int) < (n : Int)) = true := decide_eq_true (by omega)
      have b1 : ((j : Int) == (n : Int)) = false := by simp; omega
      have d2 : decide ((s : Int) < 0) = false := by simp
      have d3 : decide ((n : Int) ≤ (s : Int)) = false := decide_eq_false (by omega)
      have hsi : (s : Int) < (n : Int) := by omega
      have FN := fun (w7 : World) (U'' : Nat → Prop) (h'' : Wh) (T2 : Tb w w7 c tb U'' K f h'' PR) (hng2 : ¬ U'' gs) (hv2 : Has w7 (fun k => k = gs) 4 1 (.slice (some ⟨gs, 0, none⟩) n n) n (bools (seenL P'.A))) (o : Obj) => (show (w7.alloc o).cell? ⟨gs, s, none⟩ = some (.bool false) ∧ (w7.alloc o).frozen? ⟨gs, s, none⟩ = false ∧ (w7.alloc o).cell? ⟨w.heap.size, 5, none⟩ = some (.int .i64 (n : Int)) ∧ gs < w7.heap.size ∧ w.heap.size < w7.heap.size ∧ Tb w ((w7.setCell ⟨gs, s, none⟩ (.bool true)).alloc o) c tb U'' K f h'' PR ∧ Has ((w7.setCell ⟨gs, s, none⟩ (.bool true)).alloc o) (fun k => k = gs) 4 1 (.slice (some ⟨gs, 0, none⟩) n n) n (bools (seenL PR.A)) from by
        have hv3 := hv2.alloc o
        have T3 := T2.box o
        have hgl := (hv2.lt gs rfl).2
        obtain ⟨⟨_, _, _, _, _, z5, _⟩, _, _⟩ := T3.cells
        rw [h5.out] at z5
        refine ⟨hv3.cells (g := gs) rfl s (.bool false) (by simp [bools, hse]), hv3.frozen (g := gs) rfl s, z5, hgl, by have := T2.lt; have := T2.size; omega, (T2.set ⟨gs, s, none⟩ _ hng2 hg4.out hg1 hg2).box o, ?_⟩
        have := (has_put hv2 s (.bool true)).alloc o
        rw [hse2]
        have e : bools ((seenL P'.A).set s true) = (bools (seenL P'.A)).set s (.bool true) := by simp [bools, List.map_set]
        rw [e]
        exact this)
      replace FN := Mr.hid FN
      replace G2 := Mr.hid G2
      clear hse hse2
      go_wp2_with (first
        | (go_at_call 7; refine MV.out.mono ?_; clear MV; rintro e w5 ⟨rfl, hO5⟩; have t5 := TC.out w5 hO5; have RS5 := RS.out w5 hO5; replace RS5 := Mr.hid RS5; clear RS TC hO5)
        | (go_at_call 8; refine RS5.out.mono ?_; clear RS5 t5; rintro e w6 ⟨rfl, hO6⟩; have t6 := TD.out w6 hO6; have CA6 := CA.out w6 hO6; replace CA6 := Mr.hid CA6; clear CA TD hO6)
        | (go_at_call 11; refine CA6.out.mono ?_; clear CA6 t6; rintro e w7 ⟨rfl, U'', h'', T2, hng2, hv2⟩; have F7 := FN.out w7 U'' h'' T2 hng2 hv2 (.cells #[.int .i64 th, .int .i64 op, .int .i64 arg, .int .i64 data, .int .i64 beg, .int .i64 fin, .int .i64 pt, .int .i64 2, .int .i64 (s : Int)] 48); obtain ⟨f1, f2, f3, f4, f5, f6, f7⟩ := F7; replace f6 := Mr.hid f6; replace f7 := Mr.hid f7; replace hng2 := Mr.hid hng2; unfold Cl.val; clear FN T2 hv2))
      go_roundg (gk - 1)
      case measure => omega
      case rel => exact ⟨j + 1, U'', h'', PR, by simp, by omega, by omega, f6.out, G2.out, hng2.out, f7.out⟩
    · simp only at hak
      subst hak
      subst hje
      have d1 : decide ((j : Int) < (j : Int)) = false := by simp
      have FN := fun (w7 : World) (U'' : Nat → Prop) (h'' : Wh) (T2 : Tb w w7 c tb U'' K f h'' PR) (o : Obj) => (show (w7.alloc o).cell? ⟨w.heap.size, 5, none⟩ = some (.int .i64 (j : Int)) ∧ w.heap.size < w7.heap.size ∧ Below w.heap.size w (w7.alloc o) from by
        have T3 := T2.box o
        obtain ⟨⟨_, _, _, _, _, z5, _⟩, _, _⟩ := T3.cells
        rw [h5.out] at z5
        exact ⟨z5, by have := T2.lt; have := T2.size; omega, T3.bel⟩)
      replace FN := Mr.hid FN
      go_wp2_with (first
        | (go_at_call 7; refine MV.out.mono ?_; clear MV; rintro e w5 ⟨rfl, hO5⟩; have t5 := TC.out w5 hO5; have RS5 := RS.out w5 hO5; replace RS5 := Mr.hid RS5; clear RS TC hO5)
        | (go_at_call 8; refine RS5.out.mono ?_; clear RS5 t5; rintro e w6 ⟨rfl, hO6⟩; have t6 := TD.out w6 hO6; have CA6 := CA.out w6 hO6; replace CA6 := Mr.hid CA6; clear CA TD hO6)
        | (go_at_call 11; refine CA6.out.mono ?_; clear CA6 t6; rintro e w7 ⟨rfl, U'', h'', T2, hng2, hv2⟩; have F7 := FN.out w7 U'' h'' T2 (.cells #[.int .i64 th, .int .i64 op, .int .i64 arg, .int .i64 data, .int .i64 beg, .int .i64 fin, .int .i64 pt, .int .i64 4, .int .i64 av] 48); obtain ⟨f3, f5, f6⟩ := F7; replace f6 := Mr.hid f6; unfold Cl.val; clear FN T2 hv2 hng2))
      go_ret
      exact ⟨rfl, f6.out⟩
end Go.Proofs.YtkfpiafgfjpodabGreat.Ar
