import Derived.Test.YtglppcoohojmpaaRfOwn9
/-
  MachineOwn: its loops.
-/
namespace Go.Proofs.Ytglppcoohojmpaa.Rf
open Go.RowKit Go.Shelf Mr Me Ma
set_option linter.unusedVariables false
theorem k3_kept {w W W' : World} {x y z : Value} (h : K3 w W x y z) {S : Nat → Prop} (hf : Fr W W' S) (hS : ∀ k, S k → w.heap.size < k) : K3 w W' x y z := by
  have hl := (Array.getElem?_eq_some_iff.1 h.2).1
  refine ⟨h.1.trans (hf.below (fun k hk => Nat.le_of_lt (hS k hk)) h.1.size), (hf.block _ hl (fun e => Nat.lt_irrefl _ (hS _ e))).trans h.2⟩
theorem Lv.keptK {W w : World} {U : Nat → Prop} {k0 k1 : Nat} {q : Ph} {P : Pm} (h : Lv W U k0 k1 q P) (hk : ∀ k, U k ∨ (k0 ≤ k ∧ k < k1) → w.heap[k]? = W.heap[k]?) (hs : W.heap.size ≤ w.heap.size) : Lv w U k0 k1 q P := ⟨R_kept h.r hk hs, h.u, h.vs⟩
theorem Lv.k1l {W : World} {U : Nat → Prop} {k0 k1 : Nat} {q : Ph} {P : Pm} (h : Lv W U k0 k1 q P) : k1 ≤ W.heap.size := by
  obtain ⟨S, vl, va, vc, mv, ah, bt, hM, _⟩ := h.r
  have := hM.2.ul _ hM.2.ub.1
  have := h.u _ hM.2.ub.1
  omega
noncomputable def codeO8 : Code := tl 8 (Try.f6.body.getD .skip)
set_option maxRecDepth 100000 in
set_option maxHeartbeats 8000000 in
theorem own_8 {w W : World} {U : Nat → Prop} {k0 k1 s3 t3 B3 nth n cap nm cm : Nat} {a am : Option Addr} {ws : List Int} {ms : List Mv} {q : Ph} {c1 c2 c4 : Value} (K : K3 w W (.int .i64 (nth : Int)) (.slice a n cap) (.slice am nm cm)) (M : Lv W U k0 k1 q (Pm.new nth ws)) (h1 : 1 ≤ nth) (h2 : nth ≤ 16) (hs : Src w a n cap ws) (hn : n ≤ 8192) (hm : MvAt w am nm ms) (hnm : nm ≤ 65536) (hB3 : w.heap.size < B3) (ht3 : t3 ≤ B3) (hk : B3 < k0) (hk01 : k0 ≤ k1) (H3 : Rx W B3 (itv s3 t3) c1 c2 (.slice none 0 0) c4 ((Pm.new nth ws).play ms).cls ((Pm.new nth ws).play ms).lg [] ((Pm.new nth ws).play ms).ws) {z0 z2 z4 z5 z7 z8 z9 z10 z11 z12 z13 z14 z15 z16 z17 z18 z19 z20 z21 z22 z23 z24 z25 z26 z27 z28 z29 z30 z31 z32 z33 z34 z35 z36 z37 z38 z39 z40 z41 z42 z43 z44 z45 z46 z47 z48 z49 z50 z51 z52 z53 z54 z55 z56 z57 z58 z59 z60 z61 z62 z63 z64 z65 z66 z67 z68 z69 z70 z71 z72 z73 z74 z75 z76 z77 z78 z79 z80 z81 z82 z83 z84 z85 z86 z87 z88 z89 z90 z91 z92 z93 z94 z95 z96 z97 z98 z99 z100 z101 z102 z103 z104 z105 z106 z107 z108 z109 z110 z111 z112 z113 z114 z115 z116 z117 z118 z119 z120 z121 z122 z123 z124 z125 z126 z127 z128 z129 z130 z131 z132 z133 z134 z135 z136 z137 z138 z139 z140 z141 z142 z143 z144 z145 z146 z147 z148 z149 z150 z151 z152 z153 z154 z155 z156 z157 z158 z159 z160 z161 z162 z163 z164 z165 z166 z167 z168 z169 z170 : Value} :
    Code.wp Try.prog codeO8 (bodyPost Try.prog Try.f6 fun e w' => e = .returned (.bool true) ∧ Below w.heap.size w w') ⟨#[z0, .pointer (some ⟨w.heap.size, 0, none⟩), z2, .pointer (some ⟨B3, 0, none⟩), z4, z5, .pointer (some ⟨q.b, 0, none⟩), z7, z8, z9, z10, z11, z12, z13, z14, z15, z16, z17, z18, z19, z20, z21, z22, z23, z24, z25, z26, z27, z28, z29, z30, z31, z32, z33, z34, z35, z36, z37, z38, z39, z40, z41, z42, z43, z44, z45, z46, z47, z48, z49, z50, z51, z52, z53, z54, z55, z56, z57, z58, z59, z60, z61, z62, z63, z64, z65, z66, z67, z68, z69, z70, z71, z72, z73, z74, z75, z76, z77, z78, z79, z80, z81, z82, z83, z84, z85, z86, z87, z88, z89, z90, z91, z92, z93, z94, z95, z96, z97, z98, z99, z100, z101, z102, z103, z104, z105, z106, z107, z108, z109, z110, z111, z112, z113, z114, z115, z116, z117, z118, z119, z120, z121, z122, z123, z124, z125, z126, z127, z128, z129, z130, z131, z132, z133, z134, z135, z136, z137, z138, z139, z140, z141, z142, z143, z144, z145, z146, z147, z148, z149, z150, z151, z152, z153, z154, z155, z156, z157, z158, z159, z160, z161, z162, z163, z164, z165, z166, z167, z168, z169, z170], []⟩ W := by
  obtain ⟨f0, f1, f2, hw0⟩ := K.cells
  have hlen := hm.1
  have MC := Mr.hid (fun (W' : World) (hK : K3 w W' (.int .i64 (nth : Int)) (.slice a n cap) (.slice am nm cm)) (i : Nat) (hi : i < nm) => (show ∃ (bo oo : Nat) (mv : Mv), mv = ms[i]?.getD noMv ∧ am = some ⟨bo, oo, none⟩ ∧ bo < W'.heap.size ∧ W'.cell? ⟨bo, oo + i * 4, none⟩ = some (.int .i64 mv.th) ∧ W'.cell? ⟨bo, oo + i * 4 + 1, none⟩ = some (.int .i64 mv.op) ∧ W'.cell? ⟨bo, oo + i * 4 + 2, none⟩ = some (.int .i64 mv.arg) ∧ W'.cell? ⟨bo, oo + i * 4 + 3, none⟩ = some (.int .i64 mv.data) by
    rcases (hm.below hK.1).2 with h0 | ⟨bo, oo, e, hb, hc⟩
    · rw [hlen, h0] at hi; simp at hi
    · exact ⟨bo, oo, _, rfl, e, hb, hc i (by omega)⟩))
  obtain ⟨wf, wl⟩ := play_wf nth ws ms
  have hwl := hs.1
  have n1 : ((Pm.new nth ws).play ms).cls.length ≤ 100000 := by have := wf.cls; have := wf.n; omega
  have n2 : ((Pm.new nth ws).play ms).lg.length ≤ 100000 := by have := wf.lg; have := wf.n; omega
  have n4 : ((Pm.new nth ws).play ms).ws.length ≤ 100000 := by omega
  clear wf wl hwl
  replace n1 := Mr.hid n1
  replace n2 := Mr.hid n2
  replace n4 := Mr.hid n4
  replace hlen := Mr.hid hlen
  replace K := Mr.hid K
  replace M := Mr.hid M
  replace H3 := Mr.hid H3
  replace hs := Mr.hid hs
  replace hm := Mr.hid hm
  unfold codeO8
  conv => arg 2; whnf
  go_wp2
  rename (∀ (a : Act) (w : World), Code.wp _ (Code.seq _ _) _ a w → _) => hK1
  replace hK1 := Mr.hid hK1
  go_loopg [65] nm (fun k s65 wy => ∃ (i : Nat) (U' : Nat → Prop), s65 = .int .i64 (i : Int) ∧ i + k = nm ∧ K3 w wy (.int .i64 (nth : Int)) (.slice a n cap) (.slice am nm cm) ∧ Lv wy U' k0 k1 q ((Pm.new nth ws).play (ms.take i)) ∧ Rx wy B3 (itv s3 t3) c1 c2 (.slice none 0 0) c4 ((Pm.new nth ws).play ms).cls ((Pm.new nth ws).play ms).lg [] ((Pm.new nth ws).play ms).ws)
  case atStart => exact ⟨0, U, rfl, by omega, K.out, by rw [List.take_zero]; exact M.out, H3.out⟩
  case round =>
    obtain ⟨i, U', rfl, hik, KI, MI, HI⟩ := hrel
    clear K M H3 f0 f1 f2 hw0
    by_cases hi : i < nm
    · have d0 : decide ((i : Int) < (nm : Int)) = true := decide_eq_true (by omega)
      have hii : (i : Int) < (nm : Int) := by omega
      obtain ⟨bo, oo, mv, hmv, rfl, hbo, e0, e1, e2, e3⟩ := MC.out wr KI i hi
      have hsn := play_snoc (Pm.new nth ws) ms i (by have := hlen.out; omega)
      rw [← hmv] at hsn
      have AL := fun (o : Obj) => (Below.refl wr.heap.size wr).alloc (Nat.le_refl _) o
      have MV := Mr.hid (fun (o : Obj) => live_move (MI.below (AL o)) mv.th mv.op mv.arg mv.data)
      have FN := Mr.hid (fun (o : Obj) (w' : World) (U2 : Nat → Prop) (P' : Pm) (hL : Lv w' U2 k0 k1 q P') (hf : Fr (wr.alloc o) w' U') => (show K3 w w' (.int .i64 (nth : Int)) (.slice a n cap) (.slice (some ⟨bo, oo, none⟩) nm cm) ∧ Rx w' B3 (itv s3 t3) c1 c2 (.slice none 0 0) c4 ((Pm.new nth ws).play ms).cls ((Pm.new nth ws).play ms).lg [] ((Pm.new nth ws).play ms).ws from
        ⟨⟨(KI.below (AL o)).1.trans (hf.below (fun k hk' => by have := MI.u k hk'; omega) (KI.below (AL o)).1.size), (hf.block _ (Array.getElem?_eq_some_iff.1 (KI.below (AL o)).2).1 (fun hk' => by have := MI.u _ hk'; omega)).trans (KI.below (AL o)).2⟩, (HI.below (AL o)).fr hf (fun hk' => by have := MI.u _ hk'; omega) (fun k hk' _ hk2 => by have := MI.u _ hk2; have := hk'.2; omega)⟩))
      replace hsn := Mr.hid hsn
      replace KI := Mr.hid KI
      replace MI := Mr.hid MI
      replace HI := Mr.hid HI
      replace hmv := Mr.hid hmv
      clear AL
      go_wp2_with (go_at_call 14; refine (MV.out _).mono ?_; clear MV; rintro e w5 ⟨rfl, U2, L2, _, hf⟩; obtain ⟨K5, H5⟩ := FN.out _ w5 U2 _ L2 hf; replace K5 := Mr.hid K5; replace H5 := Mr.hid H5; replace L2 := Mr.hid L2; clear hf FN)
      go_roundg (gk - 1)
      case measure => omega
      case rel => exact ⟨i + 1, U2, by simp, by omega, K5.out, by rw [hsn.out]; exact L2.out, H5.out⟩
    · have d0 : decide ((i : Int) < (nm : Int)) = false := decide_eq_false (by omega)
      obtain rfl : i = ms.length := by have := hlen.out; omega
      rw [List.take_length] at MI
      replace KI := Mr.hid KI
      replace MI := Mr.hid MI
      replace HI := Mr.hid HI
      go_wp2
      refine hK1.out _ _ ?_
      exact own_9 KI.out MI.out rfl n1.out n2.out n4.out h1 h2 hs.out hn hm.out hnm hB3 ht3 MI.out.k1l HI.out
noncomputable def codeO7 : Code := tl 7 (Try.f6.body.getD .skip)
set_option maxRecDepth 100000 in
set_option maxHeartbeats 8000000 in
theorem own_7 {w W : World} {U : Nat → Prop} {k0 k1 s3 t3 B3 nth n cap nm cm : Nat} {a am : Option Addr} {ws : List Int} {ms : List Mv} {q : Ph} {c1 c2 c4 : Value} {s0 t0 q0 : Nat} {p0 : Option Addr} (K : K3 w W (.int .i64 (nth : Int)) (.slice a n cap) (.slice am nm cm)) (M : Lv W U k0 k1 q (Pm.new nth ws)) (h1 : 1 ≤ nth) (h2 : nth ≤ 16) (hs : Src w a n cap ws) (hn : n ≤ 8192) (hm : MvAt w am nm ms) (hnm : nm ≤ 65536) (hB3 : w.heap.size < B3) (ht3 : t3 ≤ B3) (hs0 : B3 < s0) (hst : s0 ≤ t0) (ht0 : t0 ≤ k0) (hk01 : k0 ≤ k1) (V : Has W (itv s0 t0) 59 1 (.slice p0 n q0) n (wrd ws)) (H3 : Rx W B3 (itv s3 t3) c1 c2 (.slice none 0 0) c4 ((Pm.new nth ws).play ms).cls ((Pm.new nth ws).play ms).lg [] ((Pm.new nth ws).play ms).ws) {z0 z2 z4 z7 z8 z9 z10 z11 z12 z13 z14 z15 z16 z17 z18 z19 z20 z21 z22 z23 z24 z25 z26 z27 z28 z29 z30 z31 z32 z33 z34 z35 z36 z37 z38 z39 z40 z41 z42 z43 z44 z45 z46 z47 z48 z49 z50 z51 z52 z53 z54 z55 z56 z57 z58 z59 z60 z61 z62 z63 z64 z65 z66 z67 z68 z69 z70 z71 z72 z73 z74 z75 z76 z77 z78 z79 z80 z81 z82 z83 z84 z85 z86 z87 z88 z89 z90 z91 z92 z93 z94 z95 z96 z97 z98 z99 z100 z101 z102 z103 z104 z105 z106 z107 z108 z109 z110 z111 z112 z113 z114 z115 z116 z117 z118 z119 z120 z121 z122 z123 z124 z125 z126 z127 z128 z129 z130 z131 z132 z133 z134 z135 z136 z137 z138 z139 z140 z141 z142 z143 z144 z145 z146 z147 z148 z149 z150 z151 z152 z153 z154 z155 z156 z157 z158 z159 z160 z161 z162 z163 z164 z165 z166 z167 z168 z169 z170 : Value} :
    Code.wp Try.prog codeO7 (bodyPost Try.prog Try.f6 fun e w' => e = .returned (.bool true) ∧ Below w.heap.size w w') ⟨#[z0, .pointer (some ⟨w.heap.size, 0, none⟩), z2, .pointer (some ⟨B3, 0, none⟩), z4, .slice p0 n q0, .pointer (some ⟨q.b, 0, none⟩), z7, z8, z9, z10, z11, z12, z13, z14, z15, z16, z17, z18, z19, z20, z21, z22, z23, z24, z25, z26, z27, z28, z29, z30, z31, z32, z33, z34, z35, z36, z37, z38, z39, z40, z41, z42, z43, z44, z45, z46, z47, z48, z49, z50, z51, z52, z53, z54, z55, z56, z57, z58, z59, z60, z61, z62, z63, z64, z65, z66, z67, z68, z69, z70, z71, z72, z73, z74, z75, z76, z77, z78, z79, z80, z81, z82, z83, z84, z85, z86, z87, z88, z89, z90, z91, z92, z93, z94, z95, z96, z97, z98, z99, z100, z101, z102, z103, z104, z105, z106, z107, z108, z109, z110, z111, z112, z113, z114, z115, z116, z117, z118, z119, z120, z121, z122, z123, z124, z125, z126, z127, z128, z129, z130, z131, z132, z133, z134, z135, z136, z137, z138, z139, z140, z141, z142, z143, z144, z145, z146, z147, z148, z149, z150, z151, z152, z153, z154, z155, z156, z157, z158, z159, z160, z161, z162, z163, z164, z165, z166, z167, z168, z169, z170], []⟩ W := by
  have hk1l := M.k1l
  have FN := Mr.hid (fun (w' : World) (hf : Fr W w' (itv s0 t0)) => (show K3 w w' (.int .i64 (nth : Int)) (.slice a n cap) (.slice am nm cm) ∧ Lv w' U k0 k1 q (Pm.new nth ws) ∧ Rx w' B3 (itv s3 t3) c1 c2 (.slice none 0 0) c4 ((Pm.new nth ws).play ms).cls ((Pm.new nth ws).play ms).lg [] ((Pm.new nth ws).play ms).ws from
    ⟨k3_kept K hf (fun k hk => by have := hk.1; omega), M.keptK (fun k hk => hf.block k (by rcases hk with g | g; exact M.ul k g; omega) (fun g => by have := g.2; rcases hk with g' | g'; have := M.u k g'; omega; omega)) hf.size, H3.fr hf (fun hk => by have := hk.1; omega) (fun k hk _ hk2 => by have := hk2.1; have := hk.2; omega)⟩))
  replace K := Mr.hid K
  replace M := Mr.hid M
  replace H3 := Mr.hid H3
  replace hs := Mr.hid hs
  replace hm := Mr.hid hm
  replace V := Mr.hid V
  unfold codeO7
  conv => arg 2; whnf
  go_wp2
  rename (∀ (a : Act) (w : World), Code.wp _ (Code.seq _ _) _ a w → _) => hK1
  replace hK1 := Mr.hid hK1
  go_loopg [8] n (fun k s8 wy => ∃ (i : Nat) (l : List Int), s8 = .int .i64 (i : Int) ∧ i + k = n ∧ Fr W wy (itv s0 t0) ∧ l.length = n ∧ Has wy (itv s0 t0) 59 1 (.slice p0 n q0) n (wrd l))
  case atStart => exact ⟨0, ws, rfl, by omega, Fr.refl _ _, hs.out.1.symm, V.out⟩
  case round =>
    obtain ⟨i, l, rfl, hik, hF, hl, HV⟩ := hrel
    clear V
    by_cases hi : i < n
    · have d0 : decide ((i : Int) < (n : Int)) = true := decide_eq_true (by omega)
      have hii : (i : Int) < (n : Int) := by omega
      obtain ⟨g, c', hv, hg1, hg2, hg3, hg4⟩ := HV.there (by omega)
      cases hv
      replace hg4 : q0 ≤ 9223372036854775807 := by unfold maxLen at hg4; omega
      have e0 : wr.cell? ⟨g, i, none⟩ = some (.int .u64 (l[i]?.getD 0)) := HV.cells (g := g) rfl i _ (wrd_get l i (by omega))
      have fz := HV.frozen (g := g) rfl i
      have F2 := Mr.hid (hF.setCell ⟨g, i, none⟩ (.int .u64 555) (.inl hg1))
      have HP := has_put HV i (.int .u64 555)
      have el : (wrd l).set i (.int .u64 555) = wrd (l.set i 555) := by simp [wrd, List.map_set]
      rw [el] at HP
      have ll : (l.set i 555).length = n := by rw [List.length_set]; exact hl
      replace HP := Mr.hid HP
      replace ll := Mr.hid ll
      replace hF := Mr.hid hF
      replace HV := Mr.hid HV
      replace hl := Mr.hid hl
      clear el
      go_wp2
      go_roundg (gk - 1)
      case measure => omega
      case rel => exact ⟨i + 1, _, by simp, by omega, F2.out, ll.out, HP.out⟩
    · have d0 : decide ((i : Int) < (n : Int)) = false := decide_eq_false (by omega)
      replace hF := Mr.hid hF
      replace HV := Mr.hid HV
      replace hl := Mr.hid hl
      go_wp2
      refine hK1.out _ _ ?_
      obtain ⟨KX, MX, HX⟩ := FN.out wr hF.out
      exact own_8 KX MX h1 h2 hs.out hn hm.out hnm hB3 ht3 (by omega) hk01 HX
end Go.Proofs.Ytglppcoohojmpaa.Rf
