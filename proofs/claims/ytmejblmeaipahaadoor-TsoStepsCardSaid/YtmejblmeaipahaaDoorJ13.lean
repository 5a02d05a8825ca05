import Derived.Test.YtmejblmeaipahaaDoorJ12
/-
  TSO: the program's rules of swaps and skips.
-/
namespace Go.Proofs.YtmejblmeaipahaaDoor.Ts
open Go.RowKit Mr
set_option linter.unusedVariables false
set_option linter.unusedSimpArgs false
set_option maxRecDepth 100000
theorem Rg.put_put (r : Rg) (k : Nat) (v u : Int) : (r.put k v).put k u = r.put k u := by
  rcases k with _ | _ | _ | _ | k <;> rfl
set_option maxHeartbeats 8000000 in
theorem swaps_no (s : Sv) (b t rn an : Nat) (o kd vl fr ol ct v : Int) (r : Rg) (bf : List Pd) (cs : Array Value) (w : World) (hA : Ar w b cs) (hE : Enc cs s) (ht : t < 4) (hr : s.rg[t]? = some r) (hb : s.bf[t]? = some bf) (hrn : rn < 4) (han : an < s.ws.length) (hws : s.ws.length ≤ 6) (hv : s.ws[an]? = some v) (hbn : 0 < bf.length) :
    Calls Tryd.prog 49 #[ptV b t o, (⟨kd, (rn : Int), (an : Int), vl, fr, ol, ct⟩ : In).val] w fun e w' => e = .returned (.bool false) ∧ (∃ cs', Ar w' b cs' ∧ Enc cs' s) ∧ Fr w w' (fun k => k = b) := by
  have R0 : Rl w (bx2 w b t o ⟨kd, (rn : Int), (an : Int), vl, fr, ol, ct⟩) b t o ⟨kd, (rn : Int), (an : Int), vl, fr, ol, ct⟩ s := Rl.start hA hE
  have WT := Mr.hid (R0.isWaiting ht hb)
  have lb := R0.lb
  have p0 := R0.p0
  have p1 := R0.p1
  have p2 := R0.p2
  rw [decide_eq_true hbn] at WT
  clear hA hE hb R0 hr
  unfold ptV at WT
  unfold ptV In.val
  unfold bx2 at p0 p1 p2 WT
  go_enter Tryd.func49, Tryd.ntmps49
  go_wp2_with (go_at_call 59; refine WT.out.mono ?_; clear WT; rintro e w9 ⟨rfl, R9, B9⟩; clear B9; replace R9 := Mr.hid R9)
  go_ret
  exact ⟨rfl, R9.out.done⟩
set_option maxHeartbeats 16000000 in
theorem swaps_y (s : Sv) (b t rn an : Nat) (o kd vl fr ol ct v : Int) (r : Rg) (bf : List Pd) (cs : Array Value) (w : World) (hA : Ar w b cs) (hE : Enc cs s) (ht : t < 4) (hr : s.rg[t]? = some r) (hb : s.bf[t]? = some bf) (hrn : rn < 4) (han : an < s.ws.length) (hws : s.ws.length ≤ 6) (hv : s.ws[an]? = some v) (hbn : ¬ 0 < bf.length) (he : v = ol) :
    Calls Tryd.prog 49 #[ptV b t o, (⟨kd, (rn : Int), (an : Int), vl, fr, ol, ct⟩ : In).val] w fun e w' => e = .returned (.bool true) ∧ (∃ cs', Ar w' b cs' ∧ Enc cs' { s with ws := s.ws.set an vl, rg := s.rg.set t (r.put rn 1) }) ∧ Fr w w' (fun k => k = b) := by
  have R0 : Rl w (bx2 w b t o ⟨kd, (rn : Int), (an : Int), vl, fr, ol, ct⟩) b t o ⟨kd, (rn : Int), (an : Int), vl, fr, ol, ct⟩ s := Rl.start hA hE
  have WT := Mr.hid (R0.isWaiting ht hb)
  have lb := R0.lb
  have p0 := R0.p0
  have p1 := R0.p1
  have p2 := R0.p2
  rw [decide_eq_false hbn] at WT
  have lan : (an : Int) < 6 := by omega
  have RG : Hid (∀ (W : World) (s' : Sv), Rl w W b t o ⟨kd, (rn : Int), (an : Int), vl, fr, ol, ct⟩ s' → Calls Tryd.prog 58 #[ptV b t o, .int .i64 (rn : Int)] W fun e w' => e = .returned (.pointer (some ⟨b, 6 + t * 4 + rn, none⟩)) ∧ Rl w w' b t o ⟨kd, (rn : Int), (an : Int), vl, fr, ol, ct⟩ s' ∧ Below W.heap.size W w') := fun W s' hW => hW.reg ht hrn
  have WD : Hid (∀ (W : World) (s' : Sv), Rl w W b t o ⟨kd, (rn : Int), (an : Int), vl, fr, ol, ct⟩ s' → Calls Tryd.prog 35 #[.pointer (some ⟨b, 0, none⟩)] W fun e w' => e = .returned (.slice (some ⟨b, 0, none⟩) 6 118) ∧ w' = W) := fun W s' hW => hW.words
  have CQ : Hid (∀ (W : World) (s' : Sv), Rl w W b t o ⟨kd, (rn : Int), (an : Int), vl, fr, ol, ct⟩ s' → W.cell? ⟨b, 6 + t * 4 + rn, none⟩ = some (.int .i64 (enc s' (6 + t * 4 + rn)))) := fun W s' hW => hW.cell (by omega)
  have CW : Hid (∀ (W : World) (s' : Sv), Rl w W b t o ⟨kd, (rn : Int), (an : Int), vl, fr, ol, ct⟩ s' → s'.ws[an]? = some v → W.cell? ⟨b, an, none⟩ = some (.int .i64 v)) := fun W s' hW h => (hW.cell (by omega)).trans (by rw [enc_word h (by omega)])
  have S1 : Hid (∀ (W : World), Rl w W b t o ⟨kd, (rn : Int), (an : Int), vl, fr, ol, ct⟩ s → Rl w (W.setCell ⟨b, 6 + t * 4 + rn, none⟩ (.int .i64 0)) b t o ⟨kd, (rn : Int), (an : Int), vl, fr, ol, ct⟩ { s with rg := s.rg.set t (r.put rn 0) }) := fun W hW => hW.set (by omega) (fun j hj => enc_rg s j t rn r 0 hr ht hrn)
  have S2 : Hid (∀ (W : World), Rl w W b t o ⟨kd, (rn : Int), (an : Int), vl, fr, ol, ct⟩ { s with rg := s.rg.set t (r.put rn 0) } → Rl w (W.setCell ⟨b, an, none⟩ (.int .i64 vl)) b t o ⟨kd, (rn : Int), (an : Int), vl, fr, ol, ct⟩ { s with ws := s.ws.set an vl, rg := s.rg.set t (r.put rn 0) }) := fun W hW => hW.set (by omega) (fun j hj => enc_ws { s with rg := s.rg.set t (r.put rn 0) } j an vl han hws)
  have S3 : Hid (∀ (W : World), Rl w W b t o ⟨kd, (rn : Int), (an : Int), vl, fr, ol, ct⟩ { s with ws := s.ws.set an vl, rg := s.rg.set t (r.put rn 0) } → Rl w (W.setCell ⟨b, 6 + t * 4 + rn, none⟩ (.int .i64 1)) b t o ⟨kd, (rn : Int), (an : Int), vl, fr, ol, ct⟩ { s with ws := s.ws.set an vl, rg := s.rg.set t (r.put rn 1) }) := fun W hW => by
    have hl := (List.getElem?_eq_some_iff.1 hr).1
    have h := hW.set (s' := { s with ws := s.ws.set an vl, rg := (s.rg.set t (r.put rn 0)).set t ((r.put rn 0).put rn 1) }) (j := 6 + t * 4 + rn) (v := 1) (by omega) (fun j hj => enc_rg { s with ws := s.ws.set an vl, rg := s.rg.set t (r.put rn 0) } j t rn (r.put rn 0) 1 (by simp [List.getElem?_set, hl]) ht hrn)
    rw [List.set_set, Rg.put_put] at h
    exact h
  have i1 := R0.i1
  dsimp only at i1
  have hv1 : Hid (s.ws[an]? = some v) := hv
  have dq : (v == ol) = true := by rw [he]; simp
  clear hA hE hb hr han hws hv R0
  unfold ptV at WT
  unfold bx2 at p0 p1 p2 WT i1
  unfold ptV In.val
  generalize hq : 6 + t * 4 + rn = q at *
  replace hq := Mr.hid hq
  go_enter Tryd.func49, Tryd.ntmps49
  go_upto_region 3 with (go_at_call 59; refine WT.out.mono ?_; clear WT; rintro e w3 ⟨rfl, R3, B3⟩; have p03 := R3.p0; have p13 := R3.p1; have p23 := R3.p2; have i13 := R3.i1; dsimp only at i13; have R3' := Mr.hid R3; clear B3 R3)
  clear p0 p1 p2 i1
  go_upto_region 4 with (go_at_call 58; refine (RG.out _ _ R3'.out).mono ?_; rintro e w4 ⟨rfl, R4, B4⟩; have l4 := R4.lbW; have f4 := R4.fz q; have c4 := CQ.out _ _ R4; have R4' := Mr.hid R4; clear B4 R4)
  clear p03 p13 p23 i13
  have R5 := S1.out _ R4'.out
  have k0 := R5.p0
  have k2 := R5.i2
  have k5 := R5.i5
  have kw := CW.out _ _ R5 hv1.out
  have kl := R5.lbW
  dsimp only at k2 k5
  replace R5 := Mr.hid R5
  clear c4 f4 l4 R4' R3'
  generalize w4.setCell ⟨b, q, none⟩ (.int .i64 0) = w5 at *
  go_region_held3 (fun W => W.cell? ⟨w.heap.size, 0, none⟩ = some (.pointer (some ⟨b, 0, none⟩)) ∧ W.cell? ⟨w.heap.size + 1, 2, none⟩ = some (.int .i64 (an : Int)) ∧ W.cell? ⟨w.heap.size + 1, 5, none⟩ = some (.int .i64 ol) ∧ W.cell? ⟨b, an, none⟩ = some (.int .i64 v)) (simp [*, go_sem])
    (first | (go_at_call 35; refine (WD.out _ _ R5.out.drew).mono ?_; rintro e w9 ⟨rfl, hw9⟩; obtain rfl := hw9.symm))
  have R6 := R5.out.drew
  have m0 := R6.p0
  have m2 := R6.i2
  have m3 := R6.i3
  dsimp only at m2 m3
  have mw := CW.out _ _ R6 hv1.out
  have ml := R6.lbW
  have mf := R6.fz an
  replace R6 := Mr.hid R6
  have khb : ¬ w.heap.size = b := by omega
  have khb1 : ¬ w.heap.size + 1 = b := by omega
  have khb2 : ¬ b = w.heap.size := by omega
  have khb3 : ¬ b = w.heap.size + 1 := by omega
  clear k0 k2 k5 kw kl R5
  generalize w5.drew = w6 at *
  go_upto_region 5 with fail
  go_region_held3 (fun W => W.cell? ⟨w.heap.size, 0, none⟩ = some (.pointer (some ⟨b, 0, none⟩)) ∧ W.cell? ⟨w.heap.size + 1, 2, none⟩ = some (.int .i64 (an : Int)) ∧ W.cell? ⟨w.heap.size + 1, 3, none⟩ = some (.int .i64 vl)) (simp [*, go_sem])
    (first | (go_at_call 35; refine (WD.out _ _ R6.out.drew).mono ?_; rintro e w9 ⟨rfl, hw9⟩; obtain rfl := hw9.symm))
  have R7 := (S2.out _ R6.out).drew
  have n0 := R7.p0
  have n1 := R7.p1
  have n2 := R7.p2
  have n3 := R7.i1
  dsimp only at n3
  have R7' := Mr.hid R7
  clear R7 m0 m2 m3 mw ml mf R6 khb khb1 khb2 khb3
  generalize (w6.setCell ⟨b, an, none⟩ (.int .i64 vl)).drew = w7 at *
  go_wp2_with (go_at_call 58; refine (RG.out _ _ R7'.out).mono ?_; rintro e w8 ⟨rfl, R8, B8⟩; have l8 := R8.lbW; have f8 := R8.fz q; have c8 := CQ.out _ _ R8; have R8' := Mr.hid R8; clear B8 R8)
  go_ret
  exact ⟨rfl, (S3.out _ R8'.out).done⟩
set_option maxHeartbeats 16000000 in
theorem swaps_n (s : Sv) (b t rn an : Nat) (o kd vl fr ol ct v : Int) (r : Rg) (bf : List Pd) (cs : Array Value) (w : World) (hA : Ar w b cs) (hE : Enc cs s) (ht : t < 4) (hr : s.rg[t]? = some r) (hb : s.bf[t]? = some bf) (hrn : rn < 4) (han : an < s.ws.length) (hws : s.ws.length ≤ 6) (hv : s.ws[an]? = some v) (hbn : ¬ 0 < bf.length) (he : v ≠ ol) :
    Calls Tryd.prog 49 #[ptV b t o, (⟨kd, (rn : Int), (an : Int), vl, fr, ol, ct⟩ : In).val] w fun e w' => e = .returned (.bool true) ∧ (∃ cs', Ar w' b cs' ∧ Enc cs' { s with rg := s.rg.set t (r.put rn 0) }) ∧ Fr w w' (fun k => k = b) := by
  have R0 : Rl w (bx2 w b t o ⟨kd, (rn : Int), (an : Int), vl, fr, ol, ct⟩) b t o ⟨kd, (rn : Int), (an : Int), vl, fr, ol, ct⟩ s := Rl.start hA hE
  have WT := Mr.hid (R0.isWaiting ht hb)
  have lb := R0.lb
  have p0 := R0.p0
  have p1 := R0.p1
  have p2 := R0.p2
  rw [decide_eq_false hbn] at WT
  have lan : (an : Int) < 6 := by omega
  have RG : Hid (∀ (W : World) (s' : Sv), Rl w W b t o ⟨kd, (rn : Int), (an : Int), vl, fr, ol, ct⟩ s' → Calls Tryd.prog 58 #[ptV b t o, .int .i64 (rn : Int)] W fun e w' => e = .returned (.pointer (some ⟨b, 6 + t * 4 + rn, none⟩)) ∧ Rl w w' b t o ⟨kd, (rn : Int), (an : Int), vl, fr, ol, ct⟩ s' ∧ Below W.heap.size W w') := fun W s' hW => hW.reg ht hrn
  have WD : Hid (∀ (W : World) (s' : Sv), Rl w W b t o ⟨kd, (rn : Int), (an : Int), vl, fr, ol, ct⟩ s' → Calls Tryd.prog 35 #[.pointer (some ⟨b, 0, none⟩)] W fun e w' => e = .returned (.slice (some ⟨b, 0, none⟩) 6 118) ∧ w' = W) := fun W s' hW => hW.words
  have CQ : Hid (∀ (W : World) (s' : Sv), Rl w W b t o ⟨kd, (rn : Int), (an : Int), vl, fr, ol, ct⟩ s' → W.cell? ⟨b, 6 + t * 4 + rn, none⟩ = some (.int .i64 (enc s' (6 + t * 4 + rn)))) := fun W s' hW => hW.cell (by omega)
  have CW : Hid (∀ (W : World) (s' : Sv), Rl w W b t o ⟨kd, (rn : Int), (an : Int), vl, fr, ol, ct⟩ s' → s'.ws[an]? = some v → W.cell? ⟨b, an, none⟩ = some (.int .i64 v)) := fun W s' hW h => (hW.cell (by omega)).trans (by rw [enc_word h (by omega)])
  have S1 : Hid (∀ (W : World), Rl w W b t o ⟨kd, (rn : Int), (an : Int), vl, fr, ol, ct⟩ s → Rl w (W.setCell ⟨b, 6 + t * 4 + rn, none⟩ (.int .i64 0)) b t o ⟨kd, (rn : Int), (an : Int), vl, fr, ol, ct⟩ { s with rg := s.rg.set t (r.put rn 0) }) := fun W hW => hW.set (by omega) (fun j hj => enc_rg s j t rn r 0 hr ht hrn)
  have S2 : Hid (∀ (W : World), Rl w W b t o ⟨kd, (rn : Int), (an : Int), vl, fr, ol, ct⟩ { s with rg := s.rg.set t (r.put rn 0) } → Rl w (W.setCell ⟨b, an, none⟩ (.int .i64 vl)) b t o ⟨kd, (rn : Int), (an : Int), vl, fr, ol, ct⟩ { s with ws := s.ws.set an vl, rg := s.rg.set t (r.put rn 0) }) := fun W hW => hW.set (by omega) (fun j hj => enc_ws { s with rg := s.rg.set t (r.put rn 0) } j an vl han hws)
  have S3 : Hid (∀ (W : World), Rl w W b t o ⟨kd, (rn : Int), (an : Int), vl, fr, ol, ct⟩ { s with ws := s.ws.set an vl, rg := s.rg.set t (r.put rn 0) } → Rl w (W.setCell ⟨b, 6 + t * 4 + rn, none⟩ (.int .i64 1)) b t o ⟨kd, (rn : Int), (an : Int), vl, fr, ol, ct⟩ { s with ws := s.ws.set an vl, rg := s.rg.set t (r.put rn 1) }) := fun W hW => by
    have hl := (List.getElem?_eq_some_iff.1 hr).1
    have h := hW.set (s' := { s with ws := s.ws.set an vl, rg := (s.rg.set t (r.put rn 0)).set t ((r.put rn 0).put rn 1) }) (j := 6 + t * 4 + rn) (v := 1) (by omega) (fun j hj => enc_rg { s with ws := s.ws.set an vl, rg := s.rg.set t (r.put rn 0) } j t rn (r.put rn 0) 1 (by simp [List.getElem?_set, hl]) ht hrn)
    rw [List.set_set, Rg.put_put] at h
    exact h
  have i1 := R0.i1
  dsimp only at i1
  have hv1 : Hid (s.ws[an]? = some v) := hv
  have dq : (v == ol) = false := beq_eq_false_iff_ne.2 he
  clear hA hE hb hr han hws hv R0
  unfold ptV at WT
  unfold bx2 at p0 p1 p2 WT i1
  unfold ptV In.val
  generalize hq : 6 + t * 4 + rn = q at *
  replace hq := Mr.hid hq
  go_enter Tryd.func49, Tryd.ntmps49
  go_upto_region 3 with (go_at_call 59; refine WT.out.mono ?_; clear WT; rintro e w3 ⟨rfl, R3, B3⟩; have p03 := R3.p0; have p13 := R3.p1; have p23 := R3.p2; have i13 := R3.i1; dsimp only at i13; have R3' := Mr.hid R3; clear B3 R3)
  clear p0 p1 p2 i1
  go_upto_region 4 with (go_at_call 58; refine (RG.out _ _ R3'.out).mono ?_; rintro e w4 ⟨rfl, R4, B4⟩; have l4 := R4.lbW; have f4 := R4.fz q; have c4 := CQ.out _ _ R4; have R4' := Mr.hid R4; clear B4 R4)
  clear p03 p13 p23 i13
  have R5 := S1.out _ R4'.out
  have k0 := R5.p0
  have k2 := R5.i2
  have k5 := R5.i5
  have kw := CW.out _ _ R5 hv1.out
  have kl := R5.lbW
  dsimp only at k2 k5
  replace R5 := Mr.hid R5
  clear c4 f4 l4 R4' R3'
  generalize w4.setCell ⟨b, q, none⟩ (.int .i64 0) = w5 at *
  go_region_held3 (fun W => W.cell? ⟨w.heap.size, 0, none⟩ = some (.pointer (some ⟨b, 0, none⟩)) ∧ W.cell? ⟨w.heap.size + 1, 2, none⟩ = some (.int .i64 (an : Int)) ∧ W.cell? ⟨w.heap.size + 1, 5, none⟩ = some (.int .i64 ol) ∧ W.cell? ⟨b, an, none⟩ = some (.int .i64 v)) (simp [*, go_sem])
    (first | (go_at_call 35; refine (WD.out _ _ R5.out.drew).mono ?_; rintro e w9 ⟨rfl, hw9⟩; obtain rfl := hw9.symm))
  go_wp2
  go_ret
  exact ⟨rfl, R5.out.drew.done⟩
set_option maxHeartbeats 16000000 in
theorem skips_y (s : Sv) (b t rn cn : Nat) (o kd ad vl fr ol pc : Int) (r : Rg) (cs : Array Value) (w : World) (hA : Ar w b cs) (hE : Enc cs s) (ht : t < 4) (hr : s.rg[t]? = some r) (hrn : rn < 4) (hp : s.pl[t]? = some pc) (hp0 : 0 ≤ pc ∧ pc ≤ 1000) (hcn : cn ≤ 1000) (he : r.get rn = vl) :
    Calls Tryd.prog 53 #[ptV b t o, (⟨kd, (rn : Int), ad, vl, fr, ol, (cn : Int)⟩ : In).val] w fun e w' => e = .returned (.bool true) ∧ (∃ cs', Ar w' b cs' ∧ Enc cs' { s with pl := s.pl.set t (pc + (cn : Int)) }) ∧ Fr w w' (fun k => k = b) := by
  have R0 : Rl w (bx2 w b t o ⟨kd, (rn : Int), ad, vl, fr, ol, (cn : Int)⟩) b t o ⟨kd, (rn : Int), ad, vl, fr, ol, (cn : Int)⟩ s := Rl.start hA hE
  have lb := R0.lb
  have p0 := R0.p0
  have p1 := R0.p1
  have p2 := R0.p2
  have i1 := R0.i1
  have i3 := R0.i3
  dsimp only at i1 i3
  have RG : Hid (∀ (W : World), Rl w W b t o ⟨kd, (rn : Int), ad, vl, fr, ol, (cn : Int)⟩ s → Calls Tryd.prog 58 #[ptV b t o, .int .i64 (rn : Int)] W fun e w' => e = .returned (.pointer (some ⟨b, 6 + t * 4 + rn, none⟩)) ∧ Rl w w' b t o ⟨kd, (rn : Int), ad, vl, fr, ol, (cn : Int)⟩ s ∧ Below W.heap.size W w') := fun W hW => hW.reg ht hrn
  have CQ : Hid (∀ (W : World), Rl w W b t o ⟨kd, (rn : Int), ad, vl, fr, ol, (cn : Int)⟩ s → W.cell? ⟨b, 6 + t * 4 + rn, none⟩ = some (.int .i64 (r.get rn))) := fun W hW => (hW.cell (by omega)).trans (by rw [enc_reg hr ht hrn])
  have CP : Hid (∀ (W : World), Rl w W b t o ⟨kd, (rn : Int), ad, vl, fr, ol, (cn : Int)⟩ s → W.cell? ⟨b, 22 + t, none⟩ = some (.int .i64 pc)) := fun W hW => (hW.cell (by omega)).trans (by rw [enc_plc hp ht])
  have PL : Hid (∀ (W : World), Rl w W b t o ⟨kd, (rn : Int), ad, vl, fr, ol, (cn : Int)⟩ s → Calls Tryd.prog 40 #[.pointer (some ⟨b, 0, none⟩), .int .i64 (t : Int)] W fun e w' => e = .returned (.pointer (some ⟨b, 22 + t, none⟩)) ∧ w' = W) := fun W hW => hW.place ht
  have S1 : Hid (∀ (W : World), Rl w W b t o ⟨kd, (rn : Int), ad, vl, fr, ol, (cn : Int)⟩ s → Rl w (W.setCell ⟨b, 22 + t, none⟩ (.int .i64 (pc + (cn : Int)))) b t o ⟨kd, (rn : Int), ad, vl, fr, ol, (cn : Int)⟩ { s with pl := s.pl.set t (pc + (cn : Int)) }) := fun W hW => hW.set (by omega) (fun j hj => enc_pl s j t _ (List.getElem?_eq_some_iff.1 hp).1 ht)
  have hw1 : IntKind.i64.wrap (pc + (cn : Int)) = pc + (cn : Int) := i64x _ (by omega) (by omega)
  have dq : (r.get rn == vl) = true := by rw [he]; simp
  replace he := Mr.hid he
  clear hA hE hr hp hp0 hcn
  unfold ptV In.val
  generalize hq : 6 + t * 4 + rn = q at *
  generalize hq' : 22 + t = q' at *
  generalize hg : r.get rn = rv at *
  replace hq := Mr.hid hq
  replace hq' := Mr.hid hq'
  replace hg := Mr.hid hg
  replace R0 := Mr.hid R0
  go_enter Tryd.func53, Tryd.ntmps53
  go_upto_region 1 with fail
  show Code.wp _ _ _ _ (bx2 w b t o ⟨kd, (rn : Int), ad, vl, fr, ol, (cn : Int)⟩)
  generalize bx2 w b t o ⟨kd, (rn : Int), ad, vl, fr, ol, (cn : Int)⟩ = w1 at *
  have kq := CQ.out _ R0.out
  go_region_held3 (fun W => W.cell? ⟨w.heap.size, 0, none⟩ = some (.pointer (some ⟨b, 0, none⟩)) ∧ W.cell? ⟨w.heap.size, 1, none⟩ = some (.int .i64 (t : Int)) ∧ W.cell? ⟨w.heap.size, 2, none⟩ = some (.int .i64 o) ∧ W.cell? ⟨w.heap.size + 1, 1, none⟩ = some (.int .i64 (rn : Int)) ∧ W.cell? ⟨w.heap.size + 1, 3, none⟩ = some (.int .i64 vl) ∧ W.cell? ⟨b, q, none⟩ = some (.int .i64 rv)) (simp [*, go_sem])
    (first | (go_at_call 58; refine (RG.out _ (by first | exact R0.out | exact R0.out.drew)).mono ?_; clear RG; rintro e w4 ⟨rfl, R4, B4⟩; have q0 := R4.p0; have q1 := R4.p1; have q2 := R4.p2; have j1 := R4.i1; have j3 := R4.i3; dsimp only at j1 j3; have c4 := CQ.out _ R4; have R4' := Mr.hid R4; clear B4 R4))
  go_upto_region 2 with fail
  have j6 := R4'.out.i6
  dsimp only at j6
  clear q2 j1 j3 c4 kq p0 p1 p2 i1 i3 R0
  refine wp_region_held_drew (S := (fun W => W.cell? ⟨w.heap.size, 0, none⟩ = some (.pointer (some ⟨b, 0, none⟩)) ∧ W.cell? ⟨w.heap.size, 1, none⟩ = some (.int .i64 (t : Int)) ∧ W.cell? ⟨w.heap.size + 1, 6, none⟩ = some (.int .i64 (cn : Int)))) (by kernel_rfl) ⟨q0, q1, j6⟩ (fun hHeld => ?_)
  try simp only [Act.put, List.setIfInBounds_toArray, List.set_cons_zero, List.set_cons_succ]
  refine wpAnyH_take (i := 0) (oi := (⟨_, _, _, _, _, _⟩ : Oper)) (v := ?_) rfl (by kernel_rfl) (by kernel_rfl) (by kernel_rfl) (fun _ _ _ h => h) (Or.inl ⟨by rfl, ?_⟩) (by assumption) ?_
  rotate_left
  · intro w9 hSw
    (try dsimp only at hSw)
    go_simp
    all_goals (with_reducible rfl)
  try simp only [Act.put, List.setIfInBounds_toArray, List.set_cons_zero, List.set_cons_succ]
  refine wpAnyH_take (i := 1) (oi := (⟨_, _, _, _, _, _⟩ : Oper)) (v := ?_) rfl (by kernel_rfl) (by kernel_rfl) (by kernel_rfl) (fun _ _ _ h => h) (Or.inl ⟨by rfl, ?_⟩) (by assumption) ?_
  rotate_left
  · intro w9 hSw
    (try dsimp only at hSw)
    go_simp
    all_goals (with_reducible rfl)
  try simp only [Act.put, List.setIfInBounds_toArray, List.set_cons_zero, List.set_cons_succ]
  refine wpAnyH_take (i := 2) (oi := (⟨_, _, _, _, _, _⟩ : Oper)) (v := ?_) rfl (by kernel_rfl) (by kernel_rfl) (by kernel_rfl) (fun _ _ _ h => h) (Or.inl ⟨by rfl, ?_⟩) (by assumption) ?_
  rotate_left
  · intro w9 hSw
    (try dsimp only at hSw)
    go_simp
    all_goals (with_reducible rfl)
  try simp only [Act.put, List.setIfInBounds_toArray, List.set_cons_zero, List.set_cons_succ]
  refine wpAnyH_take (i := 3) (oi := (⟨_, _, _, _, _, _⟩ : Oper)) (v := ?_) rfl (by kernel_rfl) (by kernel_rfl) (by kernel_rfl) (fun _ _ _ h => h) (Or.inl ⟨by rfl, ?_⟩) (by assumption) ?_
  rotate_left
  · intro w9 hSw
    (try dsimp only at hSw)
    go_simp
    all_goals (with_reducible rfl)
  try simp only [Act.put, List.setIfInBounds_toArray, List.set_cons_zero, List.set_cons_succ]
  refine wpAnyH_take (i := 7) (oi := (⟨_, _, _, _, _, _⟩ : Oper)) (v := ?_) rfl (by kernel_rfl) (by kernel_rfl) (by kernel_rfl) (fun _ _ _ h => h) (Or.inl ⟨by rfl, ?_⟩) (by assumption) ?_
  rotate_left
  · intro w9 hSw
    (try dsimp only at hSw)
    go_simp
    all_goals (with_reducible rfl)
  try simp only [Act.put, List.setIfInBounds_toArray, List.set_cons_zero, List.set_cons_succ]
  refine wpAnyH_take (i := 8) (oi := (⟨_, _, _, _, _, _⟩ : Oper)) (v := ?_) rfl (by kernel_rfl) (by kernel_rfl) (by kernel_rfl) (fun _ _ _ h => h) (Or.inl ⟨by rfl, ?_⟩) (by assumption) ?_
  rotate_left
  · intro w9 hSw
    (try dsimp only at hSw)
    go_simp
    all_goals (with_reducible rfl)
  try simp only [Act.put, List.setIfInBounds_toArray, List.set_cons_zero, List.set_cons_succ]
  refine wpAnyH_ready (rs := [4]) (by kernel_rfl) (by simp) ?_
  refine AllReadyH.cons (o := (⟨_, _, _, _, _, _⟩ : Oper)) rfl (fun K hK => ?_) (AllReadyH.nil)
  go_simp
  go_at_call 40
  refine (PL.out _ R4'.out.drew).mono ?_
  clear PL
  rintro e w9 ⟨rfl, hw9⟩
  obtain rfl := hw9.symm
  try (go_wp2_with fail)
  refine hK.out _ _ ⟨q0, q1, j6⟩ (fun hHeld9 => ?_)
  clear hK K hHeld
  have hHeld := hHeld9
  clear hHeld9
  try simp only [Act.put, List.setIfInBounds_toArray, List.set_cons_zero, List.set_cons_succ]
  have R5 := R4'.out.drew
  have c5 := CP.out _ R5
  have f5 := R5.fz q'
  have l5 := R5.lbW
  have z0 := R5.p0
  have z1 := R5.p1
  have z6 := R5.i6
  dsimp only at z6
  replace R5 := Mr.hid R5
  clear q0 q1 j6
  generalize w4.drew = w5 at *
  refine wpAnyH_take (i := 5) (oi := (⟨_, _, _, _, _, _⟩ : Oper)) (v := ?_) rfl (by kernel_rfl) (by kernel_rfl) (by kernel_rfl) (fun _ _ _ h => h) (Or.inl ⟨by rfl, ?_⟩) (by assumption) ?_
  rotate_left
  · intro w9 hSw
    (try dsimp only at hSw)
    go_simp
    all_goals (with_reducible rfl)
  try simp only [Act.put, List.setIfInBounds_toArray, List.set_cons_zero, List.set_cons_succ]
  refine wpAnyH_ready (rs := [6]) (by kernel_rfl) (by simp) ?_
  refine AllReadyH.cons (o := (⟨_, _, _, _, _, _⟩ : Oper)) rfl (fun K hK => ?_) (AllReadyH.nil)
  go_simp
  refine hK.out _ _ ⟨z0, z1, z6⟩ (fun hHeld9 => ?_)
  clear hK K hHeld
  have hHeld := hHeld9
  clear hHeld9
  try simp only [Act.put, List.setIfInBounds_toArray, List.set_cons_zero, List.set_cons_succ]
  refine wpAnyH_take (i := 9) (oi := (⟨_, _, _, _, _, _⟩ : Oper)) (v := ?_) rfl (by kernel_rfl) (by kernel_rfl) (by kernel_rfl) (fun _ _ _ h => h) (Or.inl ⟨by rfl, ?_⟩) (by assumption) ?_
  rotate_left
  · intro w9 hSw
    (try dsimp only at hSw)
    go_simp
    all_goals (with_reducible rfl)
  try simp only [Act.put, List.setIfInBounds_toArray, List.set_cons_zero, List.set_cons_succ]
  refine wpAnyH_take (i := 10) (oi := (⟨_, _, _, _, _, _⟩ : Oper)) (v := ?_) rfl (by kernel_rfl) (by kernel_rfl) (by kernel_rfl) (fun _ _ _ h => h) (Or.inl ⟨by rfl, ?_⟩) (by assumption) ?_
  rotate_left
  · intro w9 hSw
    (try dsimp only at hSw)
    go_simp
    all_goals (with_reducible rfl)
  try simp only [Act.put, List.setIfInBounds_toArray, List.set_cons_zero, List.set_cons_succ]
  refine wpAnyH_ready (rs := [11]) (by kernel_rfl) (by simp) ?_
  refine AllReadyH.cons (o := (⟨_, _, _, _, _, _⟩ : Oper)) rfl (fun K hK => ?_) (AllReadyH.nil)
  have R6 := S1.out _ R5.out
  have k0 := R6.p0
  have k1 := R6.p1
  have k6 := R6.i6
  dsimp only at k6
  replace R6 := Mr.hid R6
  go_simp
  refine hK.out _ _ ⟨k0, k1, k6⟩ (fun hHeld9 => ?_)
  clear hK K hHeld
  have hHeld := hHeld9
  clear hHeld9
  try simp only [Act.put, List.setIfInBounds_toArray, List.set_cons_zero, List.set_cons_succ]
  refine wpAnyH_done (by kernel_rfl) ?_ _
  clear hHeld k0 k1 k6
  go_wp2
  go_ret
  exact ⟨rfl, R6.out.done⟩
set_option maxHeartbeats 16000000 in
theorem skips_n (s : Sv) (b t rn cn : Nat) (o kd ad vl fr ol pc : Int) (r : Rg) (cs : Array Value) (w : World) (hA : Ar w b cs) (hE : Enc cs s) (ht : t < 4) (hr : s.rg[t]? = some r) (hrn : rn < 4) (hp : s.pl[t]? = some pc) (hp0 : 0 ≤ pc ∧ pc ≤ 1000) (hcn : cn ≤ 1000) (he : r.get rn ≠ vl) :
    Calls Tryd.prog 53 #[ptV b t o, (⟨kd, (rn : Int), ad, vl, fr, ol, (cn : Int)⟩ : In).val] w fun e w' => e = .returned (.bool true) ∧ (∃ cs', Ar w' b cs' ∧ Enc cs' s) ∧ Fr w w' (fun k => k = b) := by
  have R0 : Rl w (bx2 w b t o ⟨kd, (rn : Int), ad, vl, fr, ol, (cn : Int)⟩) b t o ⟨kd, (rn : Int), ad, vl, fr, ol, (cn : Int)⟩ s := Rl.start hA hE
  have lb := R0.lb
  have p0 := R0.p0
  have p1 := R0.p1
  have p2 := R0.p2
  have i1 := R0.i1
  have i3 := R0.i3
  dsimp only at i1 i3
  have RG : Hid (∀ (W : World), Rl w W b t o ⟨kd, (rn : Int), ad, vl, fr, ol, (cn : Int)⟩ s → Calls Tryd.prog 58 #[ptV b t o, .int .i64 (rn : Int)] W fun e w' => e = .returned (.pointer (some ⟨b, 6 + t * 4 + rn, none⟩)) ∧ Rl w w' b t o ⟨kd, (rn : Int), ad, vl, fr, ol, (cn : Int)⟩ s ∧ Below W.heap.size W w') := fun W hW => hW.reg ht hrn
  have CQ : Hid (∀ (W : World), Rl w W b t o ⟨kd, (rn : Int), ad, vl, fr, ol, (cn : Int)⟩ s → W.cell? ⟨b, 6 + t * 4 + rn, none⟩ = some (.int .i64 (r.get rn))) := fun W hW => (hW.cell (by omega)).trans (by rw [enc_reg hr ht hrn])
  have CP : Hid (∀ (W : World), Rl w W b t o ⟨kd, (rn : Int), ad, vl, fr, ol, (cn : Int)⟩ s → W.cell? ⟨b, 22 + t, none⟩ = some (.int .i64 pc)) := fun W hW => (hW.cell (by omega)).trans (by rw [enc_plc hp ht])
  have PL : Hid (∀ (W : World), Rl w W b t o ⟨kd, (rn : Int), ad, vl, fr, ol, (cn : Int)⟩ s → Calls Tryd.prog 40 #[.pointer (some ⟨b, 0, none⟩), .int .i64 (t : Int)] W fun e w' => e = .returned (.pointer (some ⟨b, 22 + t, none⟩)) ∧ w' = W) := fun W hW => hW.place ht
  have S1 : Hid (∀ (W : World), Rl w W b t o ⟨kd, (rn : Int), ad, vl, fr, ol, (cn : Int)⟩ s → Rl w (W.setCell ⟨b, 22 + t, none⟩ (.int .i64 (pc + (cn : Int)))) b t o ⟨kd, (rn : Int), ad, vl, fr, ol, (cn : Int)⟩ { s with pl := s.pl.set t (pc + (cn : Int)) }) := fun W hW => hW.set (by omega) (fun j hj => enc_pl s j t _ (List.getElem?_eq_some_iff.1 hp).1 ht)
  have hw1 : IntKind.i64.wrap (pc + (cn : Int)) = pc + (cn : Int) := i64x _ (by omega) (by omega)
  have dq : (r.get rn == vl) = false := beq_eq_false_iff_ne.2 he
  replace he := Mr.hid he
  clear hA hE hr hp hp0 hcn
  unfold ptV In.val
  generalize hq : 6 + t * 4 + rn = q at *
  generalize hq' : 22 + t = q' at *
  generalize hg : r.get rn = rv at *
  replace hq := Mr.hid hq
  replace hq' := Mr.hid hq'
  replace hg := Mr.hid hg
  replace R0 := Mr.hid R0
  go_enter Tryd.func53, Tryd.ntmps53
  go_upto_region 1 with fail
  show Code.wp _ _ _ _ (bx2 w b t o ⟨kd, (rn : Int), ad, vl, fr, ol, (cn : Int)⟩)
  generalize bx2 w b t o ⟨kd, (rn : Int), ad, vl, fr, ol, (cn : Int)⟩ = w1 at *
  have kq := CQ.out _ R0.out
  go_region_held3 (fun W => W.cell? ⟨w.heap.size, 0, none⟩ = some (.pointer (some ⟨b, 0, none⟩)) ∧ W.cell? ⟨w.heap.size, 1, none⟩ = some (.int .i64 (t : Int)) ∧ W.cell? ⟨w.heap.size, 2, none⟩ = some (.int .i64 o) ∧ W.cell? ⟨w.heap.size + 1, 1, none⟩ = some (.int .i64 (rn : Int)) ∧ W.cell? ⟨w.heap.size + 1, 3, none⟩ = some (.int .i64 vl) ∧ W.cell? ⟨b, q, none⟩ = some (.int .i64 rv)) (simp [*, go_sem])
    (first | (go_at_call 58; refine (RG.out _ (by first | exact R0.out | exact R0.out.drew)).mono ?_; clear RG; rintro e w4 ⟨rfl, R4, B4⟩; have q0 := R4.p0; have q1 := R4.p1; have q2 := R4.p2; have j1 := R4.i1; have j3 := R4.i3; dsimp only at j1 j3; have c4 := CQ.out _ R4; have R4' := Mr.hid R4; clear B4 R4))
  go_wp2
  go_ret
  exact ⟨rfl, R4'.out.done⟩
end Go.Proofs.YtmejblmeaipahaaDoor.Ts
/-
  TSO: the program's out.
-/
namespace Go.Proofs.YtmejblmeaipahaaDoor.Ts
open Go.RowKit Mr
set_option linter.unusedVariables false
set_option linter.unusedSimpArgs false
set_option maxRecDepth 100000
theorem find_hit {α : Type} (f : α → Bool) : ∀ (l : List α) (k : Nat) (x : α), l[k]? = some x → f x = true → (∀ q ∈ l.take k, f q = false) → l.findIdx? f = some k
  | [], k, x, h, _, _ => by simp at h
  | y :: l, 0, x, h, hx, _ => by simp at h; subst h; simp [List.findIdx?_cons, hx]
  | y :: l, k + 1, x, h, hx, hn => by
    have h0 : f y = false := hn y (by simp)
    have ih := find_hit f l k x (by simpa using h) hx (fun q hq => hn q (by simp [hq]))
    simp [List.findIdx?_cons, h0, ih]
theorem find_no {α : Type} (f : α → Bool) : ∀ (l : List α), (∀ q ∈ l, f q = false) → l.findIdx? f = none
  | [], _ => rfl
  | y :: l, hn => by
    have h0 : f y = false := hn y (by simp)
    have ih := find_no f l (fun q hq => hn q (by simp [hq]))
    simp [List.findIdx?_cons, h0, ih]
def outF (o ad : Int) (p : Pd) : Bool := decide (o = 2) || decide (p.ad = ad)
/-- What out answers and leaves. -/
def OutP (o : Int) (s : Sv) (t : Nat) (bf : List Pd) (ad : Int) (e : Ending) (P : Sv → Prop) : Prop :=
  (outI o bf ad = none ∧ e = .returned (.bool false) ∧ P s) ∨ (∃ n p, outI o bf ad = some n ∧ bf[n]? = some p ∧ e = .returned (.bool true) ∧ P { s with ws := s.ws.set p.ad.toNat p.vl, bf := s.bf.set t (bf.eraseIdx n) })
set_option maxHeartbeats 16000000 in
theorem out_any (s : Sv) (b t : Nat) (o ad : Int) (bf : List Pd) (cs : Array Value) (w : World) (hA : Ar w b cs) (hE : Enc cs s) (ht : t < 4) (hb : s.bf[t]? = some bf) (hbl : bf.length ≤ 10) (hws : s.ws.length ≤ 6) (hba : ∀ q ∈ bf, 0 ≤ q.ad ∧ q.ad < (s.ws.length : Int)) (hsc : o = 1 → bf = []) :
    Calls Tryd.prog 37 #[ptV b t o, .int .i64 ad] w fun e w' => OutP o s t bf ad e (fun s' => (∃ cs', Ar w' b cs' ∧ Enc cs' s') ∧ Fr w w' (fun k => k = b)) := by
  have B0 : Below w.heap.size w (w.alloc (.cells #[.pointer (some ⟨b, 0, none⟩), .int .i64 (t : Int), .int .i64 o] 88)) := (Below.refl _ _).alloc (Nat.le_refl _) _
  have hbx : (w.alloc (.cells #[.pointer (some ⟨b, 0, none⟩), .int .i64 (t : Int), .int .i64 o] 88)).heap[w.heap.size]? = some (.cells #[.pointer (some ⟨b, 0, none⟩), .int .i64 (t : Int), .int .i64 o] 88 (0, 0)) := new_at _ _ _ rfl
  have lb := (Array.getElem?_eq_some_iff.1 hA.1).1
  have hA1 := hA.below B0
  have hno1 : Hid (o ≠ 1 → ∀ k p, bf[k]? = some p → outF o ad p = true → (∀ q ∈ bf.take k, outF o ad q = false) → outI o bf ad = some k) := fun ho k p h1 h2 h3 => by
    unfold outI; rw [if_neg ho]; exact find_hit _ bf k p h1 h2 h3
  have hno2 : Hid ((∀ q ∈ bf, outF o ad q = false) → outI o bf ad = none) := fun h => by
    unfold outI; split
    · rfl
    · exact find_no _ bf h
  have hbi := hE.bfin hb ht (by omega)
  obtain ⟨hb1, hb2, hb3⟩ := hbi
  have ST0 : ∀ (k : Nat) (p : Pd) (W : World), bf[k]? = some p → Ar W b cs → Calls Tryd.prog 42 #[.pointer (some ⟨b, 0, none⟩), .int .i64 (t : Int), .int .i64 (k : Int)] W fun e w' => e = .returned (.agg #[.int .i64 p.ad, .int .i64 p.vl]) ∧ Below W.heap.size W w' := by
    intro k p W hk hW
    have hkl : k < bf.length := (List.getElem?_eq_some_iff.1 hk).1
    obtain ⟨g1, g2⟩ := hb3 k p hk
    exact store_any b t k p.ad p.vl cs W hW ht (by omega) g1 g2
  have ST := Mr.hid ST0
  clear ST0
  have LV : Hid (∀ (k : Nat) (p : Pd) (W : World) (cs' : Array Value), bf[k]? = some p → Ar W b cs' → Enc cs' { s with ws := s.ws.set p.ad.toNat p.vl } → Calls Tryd.prog 54 #[.pointer (some ⟨b, 0, none⟩), .int .i64 (t : Int), .int .i64 (k : Int)] W fun e w' => e = .returned (.tuple #[]) ∧ (∃ cs', Ar w' b cs' ∧ Enc cs' { s with ws := s.ws.set p.ad.toNat p.vl, bf := s.bf.set t (bf.eraseIdx k) }) ∧ Fr W w' (fun k => k = b)) := fun k p W cs' hk hA' hE' =>
    leave_any { s with ws := s.ws.set p.ad.toNat p.vl } b t k bf cs' W hA' hE' ht hb hbl (List.getElem?_eq_some_iff.1 hk).1
  have EW : Hid (∀ (n : Nat) (v : Int), n < s.ws.length → Enc (cs.setIfInBounds n (.int .i64 v)) { s with ws := s.ws.set n v }) := fun n v hn => hE.set (by omega) (fun j hj => enc_ws s j n v hn hws)
  have CC : Hid (∀ n : Nat, n < 118 → cs[n]? = some (.int .i64 (enc s n))) := fun n hn => hE.2 n hn
  have WD := Mr.hid (fun (W : World) (hW : Ar W b cs) => words_any b cs W hW)
  have WT := Mr.hid (waits_any b t cs _ hA1 ht)
  have c0 := (cell_blk hA1.1 (26 + t)).trans hb1
  have la := (Array.getElem?_eq_some_iff.1 hA1.1).1
  obtain ⟨n, hn⟩ : ∃ n, bf.length = n := ⟨_, rfl⟩
  rw [hn] at c0 hbl
  unfold ptV
  replace hn := Mr.hid hn
  replace hA1 := Mr.hid hA1
  replace hbx := Mr.hid hbx
  replace B0 := Mr.hid B0
  replace hsc := Mr.hid hsc
  replace hba := Mr.hid hba
  replace hws := Mr.hid hws
  clear hA hE hb hb1 hb2 hb3
  generalize 26 + t = q at c0 WT
  go_enter Tryd.func37, Tryd.ntmps37
  go_upto_region 2 with (go_at_call 41; refine WT.out.mono ?_; clear WT; rintro e w9 ⟨rfl, hw9⟩; obtain rfl := hw9.symm)
  clear c0
  generalize w.alloc (.cells #[.pointer (some ⟨b, 0, none⟩), .int .i64 (t : Int), .int .i64 o] 88) = w1 at *
  go_loopg [14] n (fun gk s14 wr => ∃ k : Nat, s14 = .int .i64 (k : Int) ∧ k + gk = n ∧ (∀ q ∈ bf.take k, outF o ad q = false) ∧ Below w1.heap.size w1 wr)
  case atStart => exact ⟨0, rfl, by omega, by simp, Below.refl _ _⟩
  case round =>
    obtain ⟨k, rfl, hk, hno, hB⟩ := hrel
    have hbr := (hB.block _ (Array.getElem?_eq_some_iff.1 hbx.out).1).trans hbx.out
    have p0 := cell_blk hbr 0
    have p1 := cell_blk hbr 1
    have p2 := cell_blk hbr 2
    have lp := (Array.getElem?_eq_some_iff.1 hbr).1
    have hAr := hA1.out.below hB
    have BW : Hid (Below w.heap.size w wr) := B0.out.trans (hB.mono B0.out.size)
    by_cases hlt : k < n
    · obtain ⟨y, hy⟩ : ∃ y, bf[k]? = some y := ⟨_, List.getElem?_eq_getElem (by have := hn.out; omega)⟩
      have S1 := Mr.hid (ST.out k y wr hy hAr)
      have dk : decide ((k : Int) < (n : Int)) = true := decide_eq_true (by omega)
      have dk2 : (k : Int) < (n : Int) := by omega
      have hwk : IntKind.i64.wrap ((k : Int) + 1) = (k : Int) + 1 := i64x _ (by omega) (by omega)
      have ho1 : o ≠ 1 := fun e => by have h := hsc.out e; rw [h] at hy; simp at hy
      obtain ⟨hy0, hy1⟩ := hba.out y (List.mem_of_getElem? hy)
      obtain ⟨an, han⟩ := Int.eq_ofNat_of_zero_le hy0
      have hanl : an < s.ws.length := by omega
      have hhit : Hid (outF o ad y = true → outI o bf ad = some k) := fun e => hno1.out ho1 k y hy e hno
      have hgo : Hid (outF o ad y = false → ∀ q ∈ bf.take (k + 1), outF o ad q = false) := fun e q hq => by
        rw [take_succ_of hy] at hq
        rcases List.mem_append.1 hq with hq | hq
        · exact hno q hq
        · simp at hq; subst hq; exact e
      have hB' := Mr.hid hB
      have hk' := Mr.hid hk
      have hAr' := Mr.hid hAr
      have hy' := Mr.hid hy
      obtain ⟨pa, pv⟩ := y
      dsimp only at S1 han
      subst han
      replace hanl := Mr.hid hanl
      replace ho1 := Mr.hid ho1
      clear hy0 hy1 hno hB hbr hAr hy hk hsc
      cases hf : outF o ad ⟨(an : Int), pv⟩ with
      | true =>
        have hR := hhit.out hf
        replace hR := Mr.hid hR
        clear hhit hgo
        by_cases ho : o = 2
        · have dO : (o == 2) = true := by rw [ho]; simp
          replace ho := Mr.hid ho
          replace hf := Mr.hid hf
          go_upto_region 6 with (go_at_call 42; refine S1.out.mono ?_; clear S1; rintro e w9 ⟨rfl, B9⟩; have hA9 := Mr.hid (hAr'.out.below B9); have hp0 := (B9.cell (p := ⟨w.heap.size, 0, none⟩) lp).trans p0; have hp1 := (B9.cell (p := ⟨w.heap.size, 1, none⟩) lp).trans p1; have hp2 := (B9.cell (p := ⟨w.heap.size, 2, none⟩) lp).trans p2; have lp9 := Nat.lt_of_lt_of_le lp B9.size; have hB9 : Hid (Below w.heap.size w w9) := BW.out.trans (B9.mono BW.out.size); have hC9 : Hid (Below w1.heap.size w1 w9) := hB'.out.trans (B9.mono hB'.out.size); clear B9)
          clear p0 p1 p2
          have B6 : Below w9.heap.size w9 (w9.alloc (.cells #[.int .i64 (an : Int), .int .i64 pv] 70)) := (Below.refl _ _).alloc (Nat.le_refl _) _
          have hn6 : (w9.alloc (.cells #[.int .i64 (an : Int), .int .i64 pv] 70)).heap[w9.heap.size]? = some (.cells #[.int .i64 (an : Int), .int .i64 pv] 70 (0, 0)) := new_at _ _ _ rfl
          have r0 := (B6.cell (p := ⟨w.heap.size, 0, none⟩) lp9).trans hp0
          have r1 := (B6.cell (p := ⟨w.heap.size, 1, none⟩) lp9).trans hp1
          have v0 := cell_blk hn6 0
          have v1 := cell_blk hn6 1
          have hA6 := hA9.out.below B6
          have l6 := (Array.getElem?_eq_some_iff.1 hA6.1).1
          have f6 : (w9.alloc (.cells #[.int .i64 (an : Int), .int .i64 pv] 70)).frozen? ⟨b, an, none⟩ = false := by unfold World.frozen?; rw [hA6.1]; rfl
          have hal := hanl.out
          have hwl := hws.out
          have kW := (cell_blk hA6.1 an).trans (CC.out an (by omega))
          have lan : (an : Int) < 6 := by omega
          have F6 : Hid (Fr w (w9.alloc (.cells #[.int .i64 (an : Int), .int .i64 pv] 70)) (fun k => k = b)) := (Fr.of_below hB9.out).alloc _
          have nb : ¬ w9.heap.size = b := by have := hB9.out.size; omega
          have nb2 : ¬ b = w9.heap.size := by omega
          have nb3 : ¬ w.heap.size = b := by omega
          have nb4 : ¬ b = w.heap.size := by omega
          replace hA6 := Mr.hid hA6
          clear hn6 hal hwl hp0 hp1 hp2 B6
          generalize (w9.alloc (.cells #[.int .i64 (an : Int), .int .i64 pv] 70)) = w6 at *
          go_region_held3 (fun W => W.cell? ⟨w.heap.size, 0, none⟩ = some (.pointer (some ⟨b, 0, none⟩)) ∧ W.cell? ⟨w9.heap.size, 0, none⟩ = some (.int .i64 (an : Int)) ∧ W.cell? ⟨w9.heap.size, 1, none⟩ = some (.int .i64 pv)) (simp [*, go_sem])
            (first | (go_at_call 35; refine (WD.out _ (hA6.out.below (Below.refl _ _).drew)).mono ?_; rintro e w8 ⟨rfl, hw8⟩; obtain rfl := hw8.symm))
          have hA7 : Ar (w6.setCell ⟨b, an, none⟩ (.int .i64 pv)).drew b (cs.setIfInBounds an (.int .i64 pv)) := (hA6.out.set _ _).below (Below.refl _ _).drew
          have F7 : Hid (Fr w (w6.setCell ⟨b, an, none⟩ (.int .i64 pv)).drew (fun k => k = b)) := ((F6.out.setCell ⟨b, an, none⟩ (.int .i64 pv) (.inl rfl)).drew : Fr w (w6.setCell ⟨b, an, none⟩ (.int .i64 pv)).drew (fun k => k = b))
          have L7 := Mr.hid (LV.out k ⟨(an : Int), pv⟩ _ _ hy'.out hA7 (EW.out an pv hanl.out))
          have m0 : (w6.setCell ⟨b, an, none⟩ (.int .i64 pv)).drew.cell? ⟨w.heap.size, 0, none⟩ = some (.pointer (some ⟨b, 0, none⟩)) := (World.cell?_of_block (a := ⟨w.heap.size, 0, none⟩) (Below.heap_setCell w6 ⟨b, an, none⟩ _ w.heap.size nb3)).trans r0
          have m1 : (w6.setCell ⟨b, an, none⟩ (.int .i64 pv)).drew.cell? ⟨w.heap.size, 1, none⟩ = some (.int .i64 (t : Int)) := (World.cell?_of_block (a := ⟨w.heap.size, 1, none⟩) (Below.heap_setCell w6 ⟨b, an, none⟩ _ w.heap.size nb3)).trans r1
          clear hA7 r0 r1 v0 v1 kW f6 l6 hA6 F6 nb nb2 nb3 nb4
          generalize (w6.setCell ⟨b, an, none⟩ (.int .i64 pv)).drew = w7 at *
          go_wp2_with (go_at_call 54; refine L7.out.mono ?_; clear L7; rintro e w10 ⟨rfl, D1, D2⟩; replace D1 := Mr.hid D1; replace D2 := Mr.hid D2)
          go_ret
          exact .inr ⟨k, ⟨(an : Int), pv⟩, hR.out, hy'.out, rfl, D1.out, fr_two F7.out D2.out⟩
        · have dO : (o == 2) = false := beq_eq_false_iff_ne.2 ho
          have he : (an : Int) = ad := by simpa [outF, ho] using hf
          have q1 : ((an : Int) == ad) = true := by rw [he]; simp
          replace he := Mr.hid he
          replace ho := Mr.hid ho
          replace hf := Mr.hid hf
          go_upto_region 6 with (go_at_call 42; refine S1.out.mono ?_; clear S1; rintro e w9 ⟨rfl, B9⟩; have hA9 := Mr.hid (hAr'.out.below B9); have hp0 := (B9.cell (p := ⟨w.heap.size, 0, none⟩) lp).trans p0; have hp1 := (B9.cell (p := ⟨w.heap.size, 1, none⟩) lp).trans p1; have hp2 := (B9.cell (p := ⟨w.heap.size, 2, none⟩) lp).trans p2; have lp9 := Nat.lt_of_lt_of_le lp B9.size; have hB9 : Hid (Below w.heap.size w w9) := BW.out.trans (B9.mono BW.out.size); have hC9 : Hid (Below w1.heap.size w1 w9) := hB'.out.trans (B9.mono hB'.out.size); clear B9)
          clear p0 p1 p2
          have B6 : Below w9.heap.size w9 (w9.alloc (.cells #[.int .i64 (an : Int), .int .i64 pv] 70)) := (Below.refl _ _).alloc (Nat.le_refl _) _
          have hn6 : (w9.alloc (.cells #[.int .i64 (an : Int), .int .i64 pv] 70)).heap[w9.heap.size]? = some (.cells #[.int .i64 (an : Int), .int .i64 pv] 70 (0, 0)) := new_at _ _ _ rfl
          have r0 := (B6.cell (p := ⟨w.heap.size, 0, none⟩) lp9).trans hp0
          have r1 := (B6.cell (p := ⟨w.heap.size, 1, none⟩) lp9).trans hp1
          have v0 := cell_blk hn6 0
          have v1 := cell_blk hn6 1
          have hA6 := hA9.out.below B6
          have l6 := (Array.getElem?_eq_some_iff.1 hA6.1).1
          have f6 : (w9.alloc (.cells #[.int .i64 (an : Int), .int .i64 pv] 70)).frozen? ⟨b, an, none⟩ = false := by unfold World.frozen?; rw [hA6.1]; rfl
          have hal := hanl.out
          have hwl := hws.out
          have kW := (cell_blk hA6.1 an).trans (CC.out an (by omega))
          have lan : (an : Int) < 6 := by omega
          have F6 : Hid (Fr w (w9.alloc (.cells #[.int .i64 (an : Int), .int .i64 pv] 70)) (fun k => k = b)) := (Fr.of_below hB9.out).alloc _
          have nb : ¬ w9.heap.size = b := by have := hB9.out.size; omega
          have nb2 : ¬ b = w9.heap.size := by omega
          have nb3 : ¬ w.heap.size = b := by omega
          have nb4 : ¬ b = w.heap.size := by omega
          replace hA6 := Mr.hid hA6
          clear hn6 hal hwl hp0 hp1 hp2 B6
          generalize (w9.alloc (.cells #[.int .i64 (an : Int), .int .i64 pv] 70)) = w6 at *
          go_region_held3 (fun W => W.cell? ⟨w.heap.size, 0, none⟩ = some (.pointer (some ⟨b, 0, none⟩)) ∧ W.cell? ⟨w9.heap.size, 0, none⟩ = some (.int .i64 (an : Int)) ∧ W.cell? ⟨w9.heap.size, 1, none⟩ = some (.int .i64 pv)) (simp [*, go_sem])
            (first | (go_at_call 35; refine (WD.out _ (hA6.out.below (Below.refl _ _).drew)).mono ?_; rintro e w8 ⟨rfl, hw8⟩; obtain rfl := hw8.symm))
          have hA7 : Ar (w6.setCell ⟨b, an, none⟩ (.int .i64 pv)).drew b (cs.setIfInBounds an (.int .i64 pv)) := (hA6.out.set _ _).below (Below.refl _ _).drew
          have F7 : Hid (Fr w (w6.setCell ⟨b, an, none⟩ (.int .i64 pv)).drew (fun k => k = b)) := ((F6.out.setCell ⟨b, an, none⟩ (.int .i64 pv) (.inl rfl)).drew : Fr w (w6.setCell ⟨b, an, none⟩ (.int .i64 pv)).drew (fun k => k = b))
          have L7 := Mr.hid (LV.out k ⟨(an : Int), pv⟩ _ _ hy'.out hA7 (EW.out an pv hanl.out))
          have m0 : (w6.setCell ⟨b, an, none⟩ (.int .i64 pv)).drew.cell? ⟨w.heap.size, 0, none⟩ = some (.pointer (some ⟨b, 0, none⟩)) := (World.cell?_of_block (a := ⟨w.heap.size, 0, none⟩) (Below.heap_setCell w6 ⟨b, an, none⟩ _ w.heap.size nb3)).trans r0
          have m1 : (w6.setCell ⟨b, an, none⟩ (.int .i64 pv)).drew.cell? ⟨w.heap.size, 1, none⟩ = some (.int .i64 (t : Int)) := (World.cell?_of_block (a := ⟨w.heap.size, 1, none⟩) (Below.heap_setCell w6 ⟨b, an, none⟩ _ w.heap.size nb3)).trans r1
          clear hA7 r0 r1 v0 v1 kW f6 l6 hA6 F6 nb nb2 nb3 nb4
          generalize (w6.setCell ⟨b, an, none⟩ (.int .i64 pv)).drew = w7 at *
          go_wp2_with (go_at_call 54; refine L7.out.mono ?_; clear L7; rintro e w10 ⟨rfl, D1, D2⟩; replace D1 := Mr.hid D1; replace D2 := Mr.hid D2)
          go_ret
          exact .inr ⟨k, ⟨(an : Int), pv⟩, hR.out, hy'.out, rfl, D1.out, fr_two F7.out D2.out⟩
      | false =>
        have hn2 := hgo.out hf
        replace hn2 := Mr.hid hn2
        clear hhit hgo
        have ho : o ≠ 2 := by intro e; simp [outF, e] at hf
        have dO : (o == 2) = false := beq_eq_false_iff_ne.2 ho
        have he : (an : Int) ≠ ad := by simpa [outF, ho] using hf
        have q1 : ((an : Int) == ad) = false := beq_eq_false_iff_ne.2 he
        replace he := Mr.hid he
        replace ho := Mr.hid ho
        replace hf := Mr.hid hf
        go_wp2_with (go_at_call 42; refine S1.out.mono ?_; clear S1; rintro e w9 ⟨rfl, B9⟩; have hA9 := Mr.hid (hAr'.out.below B9); have hp0 := (B9.cell (p := ⟨w.heap.size, 0, none⟩) lp).trans p0; have hp1 := (B9.cell (p := ⟨w.heap.size, 1, none⟩) lp).trans p1; have hp2 := (B9.cell (p := ⟨w.heap.size, 2, none⟩) lp).trans p2; have lp9 := Nat.lt_of_lt_of_le lp B9.size; have hB9 : Hid (Below w.heap.size w w9) := BW.out.trans (B9.mono BW.out.size); have hC9 : Hid (Below w1.heap.size w1 w9) := hB'.out.trans (B9.mono hB'.out.size); clear B9)
        go_roundg (gk - 1)
        case measure => have := hk'.out; omega
        case rel => exact ⟨k + 1, by simp, by have := hk'.out; omega, hn2.out, hC9.out.alloc hC9.out.size _⟩
    · have dk : decide ((k : Int) < (n : Int)) = false := decide_eq_false (by omega)
      have dk2 : ¬ (k : Int) < (n : Int) := by omega
      have hall : outI o bf ad = none := hno2.out (fun q hq => hno q (by rw [List.take_of_length_le (by have := hn.out; omega)]; exact hq))
      replace hall := Mr.hid hall
      replace hAr := Mr.hid hAr
      clear hno hk hlt hB hbr
      go_wp2
      go_ret
      exact .inl ⟨hall.out, rfl, ⟨_, hAr.out, ⟨hA1.out.2, CC.out⟩⟩, Fr.of_below BW.out⟩
end Go.Proofs.YtmejblmeaipahaaDoor.Ts
