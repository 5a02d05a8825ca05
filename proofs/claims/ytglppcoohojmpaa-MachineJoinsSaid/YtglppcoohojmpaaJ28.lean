import Derived.Test.YtglppcoohojmpaaJ23
import Derived.Test.YtglppcoohojmpaaJ26
import Derived.Test.YtglppcoohojmpaaJ27
import Derived.Test.YtglppcoohojmpaaJ15
/-
  THE DOCUMENT's MACHINE: Own, its code and its entries.
-/
namespace Go.Proofs.Ytglppcoohojmpaa.Rf
open Go.RowKit Mr Me Ma
theorem two_new (W : World) (o1 o2 : Obj) : ((W.alloc o1).alloc o2).heap[W.heap.size]? = some o1 ∧ ((W.alloc o1).alloc o2).heap[W.heap.size + 1]? = some o2 ∧ Below W.heap.size W ((W.alloc o1).alloc o2) := by
  refine ⟨(Below.heap_alloc _ _ _ (by simp)).trans (heap_alloc_new W _), ?_, ((Below.refl _ _).alloc (Nat.le_refl _) _).alloc (by simp) _⟩
  have := heap_alloc_new (W.alloc o1) o2
  rwa [World.size_alloc] at this
set_option maxRecDepth 100000 in
set_option maxHeartbeats 4000000 in
theorem Own_any (W : World) :
    Calls Try.prog 12 #[] W fun e w' => ∃ g1 g2, e = .returned (.tuple #[.slice (some ⟨g1, 0, none⟩) 13 13, .slice (some ⟨g2, 0, none⟩) 2 2]) ∧ W.heap.size ≤ g1 ∧ W.heap.size ≤ g2 ∧ w'.heap[g1]? = some (.cells (ownCode.flatMap Ins.cells).toArray 112 (0, 0)) ∧ w'.heap[g2]? = some (.cells (ownEns.flatMap En.cells).toArray 114 (0, 0)) ∧ Below W.heap.size W w' := by
  go_enter Try.func12, Try.ntmps12
  go_wp2
  refine bodyPost_ret (v := .tuple #[.slice (some ⟨W.heap.size, 0, none⟩) 13 13, .slice (some ⟨W.heap.size + 1, 0, none⟩) 2 2]) (by simp [results, Try.f12, go_sem]) rfl ?_
  have T := two_new W (.cells (ownCode.flatMap Ins.cells).toArray 112 (0, 0)) (.cells (ownEns.flatMap En.cells).toArray 114 (0, 0))
  exact ⟨W.heap.size, W.heap.size + 1, rfl, Nat.le_refl _, Nat.le_succ _, T⟩
end Go.Proofs.Ytglppcoohojmpaa.Rf
/-
  THE DOCUMENT's MACHINE: Move at any state, Run.
-/
namespace Go.Proofs.Ytglppcoohojmpaa.Rf
open Go.RowKit Mr Me Ma
theorem move_wf {P : Pm} (h : Wf P) (th op arg data : Int) : Wf (P.move th op arg data).1 := by
  unfold Pm.move
  split
  · exact h
  · rename_i hn
    have hn' : P.n < 65536 := by omega
    split
    · split
      · exact h.count hn'
      · rename_i t ht
        split
        · exact h.step hn' _ t ht _
        · split
          · exact h.count hn'
          · exact h.begins hn' _ _ _ _ _
    · exact h.count hn'
theorem move_ws (P : Pm) (th op arg data : Int) : (P.move th op arg data).1.ws.length = P.ws.length := by
  unfold Pm.move
  split
  · rfl
  · split
    · split
      · rfl
      · split
        · unfold Pm.step
          repeat' split
          all_goals simp [Pm.count]
        · split
          · rfl
          · unfold Pm.begins
            repeat' split
            all_goals simp [Pm.count]
    · rfl
/-- The document's machine in the world, at the program's state. -/
def Sm (W : World) (U : Nat → Prop) (q : Rc) (P : Pm) : Prop :=
  OwnQ q ∧ Wf P ∧ P.ws.length ≤ 8192 ∧ ∃ s vc vl, Rel P s ∧ Rm W U q vc vl (.slice none 0 0) s
theorem Sm.below {W w : World} {U : Nat → Prop} {q : Rc} {P : Pm} (h : Sm W U q P) (hB : Below W.heap.size W w) : Sm w U q P := by
  obtain ⟨h1, h2, h3, s, vc, vl, h4, h5⟩ := h
  exact ⟨h1, h2, h3, s, vc, vl, h4, h5.below hB⟩
theorem Move_any {W : World} {U : Nat → Prop} {q : Rc} {P : Pm} (h : Sm W U q P) (th op arg data : Int) :
    Calls Try.prog 15 #[.pointer (some ⟨q.b, 0, none⟩), .agg #[.int .i64 th, .int .i64 op, .int .i64 arg, .int .i64 data]] W fun e w' => e = .returned (.bool (P.move th op arg data).2) ∧ ∃ U', Sm w' U' q (P.move th op arg data).1 ∧ (∀ k, U k → U' k) ∧ (∀ k, U' k → U k ∨ W.heap.size ≤ k) ∧ Fr W w' U := by
  obtain ⟨h1, h2, h3, s, vc, vl, h4, h5⟩ := h
  by_cases hn : P.n < 65536
  · obtain ⟨s1, e1, r1, c1⟩ := sim_move (vs := .slice none 0 0) h1 h4 h2 h3 (by rw [← h5.tn, h4.len]) hn th op arg data
    refine (Move_of h5 (by rw [h4.n]; omega) th op arg data e1 c1).mono ?_
    rintro e w' ⟨rfl, U', vc', vl', g1, g2, g3, g4⟩
    exact ⟨rfl, U', ⟨h1, move_wf h2 _ _ _ _, by rw [move_ws]; exact h3, _, vc', vl', r1, g1⟩, g2, g3, g4⟩
  · have hm : P.move th op arg data = (P, false) := by unfold Pm.move; rw [if_pos (by omega)]
    rw [hm]
    refine (Move_full h5 (by rw [h4.n]; omega) th op arg data).mono ?_
    rintro e w' ⟨rfl, U', vc', vl', g1, g2, g3, g4⟩
    exact ⟨rfl, U', ⟨h1, h2, h3, s, vc', vl', h4, g1⟩, g2, g3, g4⟩
end Go.Proofs.Ytglppcoohojmpaa.Rf
/-
  THE DOCUMENT's MACHINE: Run.
-/
namespace Go.Proofs.Ytglppcoohojmpaa.Rf
open Go.RowKit Mr Me Ma
/-- A result's box at B, all that was in W0 kept. -/
def Bz (W0 : World) (B : Nat) (w : World) : Prop := Below W0.heap.size W0 w ∧ w.heap[B]? = some (.cells #[.slice none 0 0, .slice none 0 0, .slice none 0 0, .slice none 0 0] 53 (0, 0)) ∧ W0.heap.size ≤ B
theorem Bz.below {W0 w w' : World} {B : Nat} (h : Bz W0 B w) (hB : Below w.heap.size w w') : Bz W0 B w' :=
  ⟨h.1.trans (hB.mono h.1.size), (hB.block _ (Array.getElem?_eq_some_iff.1 h.2.1).1).trans h.2.1, h.2.2⟩
theorem Bz.cells {W0 w : World} {B : Nat} (h : Bz W0 B w) : (∀ j, j < 4 → w.cell? ⟨B, j, none⟩ = some (.slice none 0 0)) ∧ ∀ j, w.frozen? ⟨B, j, none⟩ = false := by
  refine ⟨fun j hj => ?_, fun j => by simp [World.frozen?, h.2.1]⟩
  have hj' : j = 0 ∨ j = 1 ∨ j = 2 ∨ j = 3 := by omega
  rcases hj' with rfl | rfl | rfl | rfl <;> simp [World.cell?, h.2.1]
theorem Told_sm {W : World} {U : Nat → Prop} {q : Rc} {P : Pm} (h : Sm W U q P) :
    Calls Try.prog 18 #[.pointer (some ⟨q.b, 0, none⟩)] W fun e w' => ∃ v1 v2 v4, e = .returned (runV v1 v2 (.slice none 0 0) v4) ∧ Has w' (fun k => W.heap.size ≤ k) 78 9 v1 P.cls.length (clc P.cls) ∧ Has w' (fun k => W.heap.size ≤ k) 128 7 v2 P.lg.length (lgc P.lg) ∧ Has w' (fun k => W.heap.size ≤ k) 59 1 v4 P.ws.length (wrd P.ws) ∧ Below W.heap.size W w' := by
  obtain ⟨h1, h2, h3, s, vc, vl, h4, h5⟩ := h
  rw [← h4.cls, ← h4.lg, ← h4.ws]
  have n1 := h2.n
  have n2 := h2.cls
  have n3 := h2.lg
  exact Told_any h5 (by rw [h4.cls]; omega) (by rw [h4.lg]; omega) (by rw [h4.ws]; omega)
set_option maxRecDepth 100000 in
set_option maxHeartbeats 4000000 in
theorem Run_any {W0 w : World} {U : Nat → Prop} {q : Rc} {P : Pm} (h : Sm w U q P) (hW : Below W0.heap.size W0 w) (hU : ∀ k, U k → W0.heap.size ≤ k) (am : Option Addr) (nm cm : Nat) (ms : List Mv) (hm : MvAt W0 am nm ms) (hnm : nm ≤ 65536) :
    Calls Try.prog 45 #[.pointer (some ⟨q.b, 0, none⟩), .slice am nm cm] w fun e w' => ∃ v1 v2 v4, e = .returned (runV v1 v2 (.slice none 0 0) v4) ∧ Has w' (fun k => w.heap.size ≤ k) 78 9 v1 (P.play ms).cls.length (clc (P.play ms).cls) ∧ Has w' (fun k => w.heap.size ≤ k) 128 7 v2 (P.play ms).lg.length (lgc (P.play ms).lg) ∧ Has w' (fun k => w.heap.size ≤ k) 59 1 v4 (P.play ms).ws.length (wrd (P.play ms).ws) ∧ Fr w w' U ∧ Below W0.heap.size W0 w' := by
  have hz := hW.size
  have hub : ∀ k, U k → k < w.heap.size := by obtain ⟨_, _, _, s, vc, vl, _, h5⟩ := h; exact h5.ul
  have hB0 := (Below.refl w.heap.size w).alloc (Nat.le_refl _) (.cells #[.slice none 0 0, .slice none 0 0, .slice none 0 0, .slice none 0 0] 53)
  have hbz : Bz W0 w.heap.size (w.alloc (.cells #[.slice none 0 0, .slice none 0 0, .slice none 0 0, .slice none 0 0] 53)) := ⟨hW.trans (hB0.mono hz), heap_alloc_new w _, hz⟩
  have hsz0 : (w.alloc (.cells #[.slice none 0 0, .slice none 0 0, .slice none 0 0, .slice none 0 0] 53)).heap.size = w.heap.size + 1 := by simp
  have ST : Sm (w.alloc (.cells #[.slice none 0 0, .slice none 0 0, .slice none 0 0, .slice none 0 0] 53)) U q P ∧ Fr w (w.alloc (.cells #[.slice none 0 0, .slice none 0 0, .slice none 0 0, .slice none 0 0] 53)) U := ⟨h.below hB0, Fr.of_below hB0⟩
  obtain ⟨hnml, _⟩ := id hm
  subst hnml
  replace hub := Mr.hid hub
  replace hU := Mr.hid hU
  replace hW := Mr.hid hW
  replace h := Mr.hid h
  replace hB0 := Mr.hid hB0
  replace hbz := Mr.hid hbz
  replace ST := Mr.hid ST
  go_enter Try.func45, Try.ntmps45
  go_wp2
  go_loopg [9] ms.length (fun k s wr => ∃ (i : Nat) (U' : Nat → Prop), s = .int .i64 (i : Int) ∧ i + k = ms.length ∧ Sm wr U' q (P.play (ms.take i)) ∧ (∀ k, U' k → U k ∨ w.heap.size < k) ∧ Bz W0 w.heap.size wr ∧ Fr w wr U)
  case atStart => exact ⟨0, U, rfl, by omega, ST.out.1, fun k hk => .inl hk, hbz.out, ST.out.2⟩
  case round =>
    obtain ⟨i, U', rfl, hi, hRi, hUi, hxi, hFi⟩ := hrel
    by_cases hlt : i < ms.length
    · rcases hm.2 with h0 | ⟨bo, oo, rfl, hbo, hc⟩
      · rw [h0] at hlt; simp at hlt
      obtain ⟨c0, c1, c2, c3⟩ := hc i hlt
      have hcW := fun (j : Nat) (u : Value) (hu : W0.cell? ⟨bo, j, none⟩ = some u) => (hxi.1.cell (p := ⟨bo, j, none⟩) hbo).trans hu
      have g0 := hcW _ _ c0
      have g1 := hcW _ _ c1
      have g2 := hcW _ _ c2
      have g3 := hcW _ _ c3
      have hsn := Mr.hid (play_snoc P ms i hlt)
      have hsz := hxi.1.size
      have MV := fun (o : Obj) => Move_any (hRi.below ((Below.refl wr.heap.size wr).alloc (Nat.le_refl _) o)) (ms[i]?.getD noMv).th (ms[i]?.getD noMv).op (ms[i]?.getD noMv).arg (ms[i]?.getD noMv).data
      have fin := fun (o : Obj) (w3 : World) (U'' : Nat → Prop) (hR' : Sm w3 U'' q ((P.play (ms.take i)).move (ms[i]?.getD noMv).th (ms[i]?.getD noMv).op (ms[i]?.getD noMv).arg (ms[i]?.getD noMv).data).1) (hsub : ∀ k, U' k → U'' k) (hup : ∀ k, U'' k → U' k ∨ (wr.alloc o).heap.size ≤ k) (hf : Fr (wr.alloc o) w3 U') => (show Sm w3 U'' q (P.play (ms.take (i + 1))) ∧ (∀ k, U'' k → U k ∨ w.heap.size < k) ∧ Bz W0 w.heap.size w3 ∧ Fr w w3 U from by
        have hBa := (Below.refl wr.heap.size wr).alloc (Nat.le_refl _) o
        have hxa := hxi.below hBa
        have hwr : w.heap.size < wr.heap.size := (Array.getElem?_eq_some_iff.1 hxi.2.1).1
        have hz' : W0.heap.size ≤ w.heap.size := hxi.2.2
        have hU0 := hU.out
        have hub0 := hub.out
        have hsa : (wr.alloc o).heap.size = wr.heap.size + 1 := by simp
        refine ⟨by rw [hsn.out]; exact hR', fun k hk => ?_, ⟨hxa.1.trans (hf.below (fun k hk => ?_) (by omega)), (hf.block _ (by omega) (fun e => ?_)).trans hxa.2.1, hz'⟩, ?_⟩
        · rcases hup k hk with h | h
          · exact hUi k h
          · right; omega
        · rcases hUi k hk with h | h
          · exact hU0 k h
          · omega
        · rcases hUi _ e with h | h
          · have := hub0 _ h; omega
          · omega
        · have hF2 := hFi.trans (Fr.of_below hBa)
          refine ⟨hf.os.trans hF2.os, hf.tape.trans hF2.tape, hf.output.trans hF2.output, Nat.le_trans hF2.size hf.size, fun k hk hn => ?_⟩
          refine (hf.block k (by omega) (fun e => ?_)).trans (hF2.block k hk hn)
          rcases hUi k e with h | h
          · exact hn h
          · omega)
      generalize (P.play (ms.take i)).move (ms[i]?.getD noMv).th (ms[i]?.getD noMv).op (ms[i]?.getD noMv).arg (ms[i]?.getD noMv).data = PM at *
      generalize ms[i]?.getD noMv = m0 at *
      replace hRi := Mr.hid hRi
      replace hUi := Mr.hid hUi
      replace hxi := Mr.hid hxi
      replace hFi := Mr.hid hFi
      clear hc hcW c0 c1 c2 c3 hm
      go_wp2_with (go_at_call 15; refine (MV _).mono ?_; clear MV; rintro e w3 ⟨rfl, U'', hO1, hO2, hO3, hO4⟩; obtain ⟨r1, r2, r3, r4⟩ := fin _ w3 U'' hO1 hO2 hO3 hO4; clear fin hO1 hO2 hO3 hO4)
      go_roundg (gk - 1)
      case measure => omega
      case rel => exact ⟨i + 1, U'', by simp, by omega, r1, r2, r3, r4⟩
    · obtain rfl : i = ms.length := by omega
      rw [List.take_length] at hRi
      have RN := Told_sm hRi
      have hsz := hxi.1.size
      have hbl : w.heap.size < wr.heap.size := (Array.getElem?_eq_some_iff.1 hxi.2.1).1
      have fin : ∀ (w6 : World) (hB : Below wr.heap.size wr w6), Bz W0 w.heap.size w6 ∧ Fr w w6 U := fun w6 hB => ⟨hxi.below hB, hFi.trans (Fr.of_below hB)⟩
      replace hRi := Mr.hid hRi
      replace hxi := Mr.hid hxi
      replace hFi := Mr.hid hFi
      replace hUi := Mr.hid hUi
      clear hm
      go_wp2_with (go_at_call 18; refine RN.mono ?_; clear RN; rintro e w6 ⟨v1, v2, v4, rfl, hv1, hv2, hv4, hB6⟩; obtain ⟨hx6, hF6⟩ := fin w6 hB6; clear fin; obtain ⟨kc, kz⟩ := hx6.cells; have kc0 := kc 0 (by decide); have kc1 := kc 1 (by decide); have kc2 := kc 2 (by decide); have kc3 := kc 3 (by decide); clear kc; obtain ⟨p1, q1, rfl, _⟩ := hv1.form; obtain ⟨p2, q2, rfl, _⟩ := hv2.form; obtain ⟨p4, q4, rfl, _⟩ := hv4.form; replace hx6 := Mr.hid hx6; replace hF6 := Mr.hid hF6; unfold runV)
      generalize hn1 : (P.play ms).cls.length = n1 at *
      generalize hn2 : (P.play ms).lg.length = n2 at *
      generalize hn4 : (P.play ms).ws.length = n4 at *
      obtain ⟨W5, hW5⟩ : ∃ W5, (((w6.setCell ⟨w.heap.size, 0, none⟩ (.slice p1 n1 q1)).setCell ⟨w.heap.size, 1, none⟩ (.slice p2 n2 q2)).setCell ⟨w.heap.size, 2, none⟩ (.slice none 0 0)).setCell ⟨w.heap.size, 3, none⟩ (.slice p4 n4 q4) = W5 := ⟨_, rfl⟩
      have hb5 : W5.heap[w.heap.size]? = some (.cells #[.slice p1 n1 q1, .slice p2 n2 q2, .slice none 0 0, .slice p4 n4 q4] 53 (0, 0)) := by
        rw [← hW5, setBlk (setBlk (setBlk (setBlk hx6.out.2.1 0 _) 1 _) 2 _) 3 _]
        rfl
      have ho5 : ∀ k, k ≠ w.heap.size → W5.heap[k]? = w6.heap[k]? := fun k hk => by
        rw [← hW5, Below.heap_setCell _ _ _ k hk, Below.heap_setCell _ _ _ k hk, Below.heap_setCell _ _ _ k hk, Below.heap_setCell _ _ _ k hk]
      have hB5 : Below W0.heap.size W0 W5 := by
        rw [← hW5]
        exact (((hx6.out.1.setCell (p := ⟨w.heap.size, 0, none⟩) hz _).setCell (p := ⟨w.heap.size, 1, none⟩) hz _).setCell (p := ⟨w.heap.size, 2, none⟩) hz _).setCell (p := ⟨w.heap.size, 3, none⟩) hz _
      have hD5 : Below w.heap.size w6 W5 := by
        rw [← hW5]
        exact ((((Below.refl _ w6).setCell (p := ⟨w.heap.size, 0, none⟩) (Nat.le_refl _) _).setCell (p := ⟨w.heap.size, 1, none⟩) (Nat.le_refl _) _).setCell (p := ⟨w.heap.size, 2, none⟩) (Nat.le_refl _) _).setCell (p := ⟨w.heap.size, 3, none⟩) (Nat.le_refl _) _
      have hF5 : Fr w W5 U := by
        have hF := hF6.out
        exact ⟨hD5.os.trans hF.os, hD5.tape.trans hF.tape, hD5.output.trans hF.output, Nat.le_trans hF.size hD5.size, fun k hk hn => (hD5.block k hk).trans (hF.block k hk hn)⟩
      have keep : ∀ {e size m : Nat} {v : Value} {xs : List Value}, Has w6 (fun k => wr.heap.size ≤ k) e size v m xs → Has W5 (fun k => w.heap.size ≤ k) e size v m xs := fun {e size m v xs} hh =>
        hh.kept (fun k hk => ho5 k (fun e' => by have := (hh.lt k hk).1; omega)) (fun k hk => by have := (hh.lt k hk).1; omega)
      have d0 : W5.cell? ⟨w.heap.size, 0, none⟩ = some (.slice p1 n1 q1) := by simp [World.cell?, hb5]
      have d1 : W5.cell? ⟨w.heap.size, 1, none⟩ = some (.slice p2 n2 q2) := by simp [World.cell?, hb5]
      have d2 : W5.cell? ⟨w.heap.size, 2, none⟩ = some (.slice none 0 0) := by simp [World.cell?, hb5]
      have d3' : W5.cell? ⟨w.heap.size, 3, none⟩ = some (.slice p4 n4 q4) := by simp [World.cell?, hb5]
      rw [hW5]
      refine bodyPost_ret (v := runV (.slice p1 n1 q1) (.slice p2 n2 q2) (.slice none 0 0) (.slice p4 n4 q4)) (by simp [results, Try.f45, go_sem, d0, d1, d2, d3', runV]) rfl ?_
      exact ⟨_, _, _, rfl, keep hv1, keep hv2, keep hv4, hF5, hB5⟩
end Go.Proofs.Ytglppcoohojmpaa.Rf
/-
  THE DOCUMENT's MACHINE: what New makes stands for the program's new machine.
-/
namespace Go.Proofs.Ytglppcoohojmpaa.Rf
open Go.RowKit Mr Me Ma
theorem new_wf (nth : Nat) (ws : List Int) : Wf (Pm.new nth ws) := by
  refine ⟨Nat.zero_le _, Nat.le_refl _, Nat.le_refl _, fun i t ht => ?_⟩
  have ht' : (List.replicate nth (⟨.idle, false, -1⟩ : Pt))[i]? = some t := ht
  rw [List.getElem?_replicate] at ht'
  split at ht'
  · cases ht'
    exact ⟨trivial, fun e => by cases e⟩
  · cases ht'
theorem new_rel (nth : Nat) (ws : List Int) : Rel (Pm.new nth ws) ⟨ws, List.replicate nth rt0, 0, [], []⟩ := by
  refine ⟨rfl, rfl, rfl, rfl, by simp [Pm.new], fun i p t hp ht => ?_⟩
  have hp' : (List.replicate nth (⟨.idle, false, -1⟩ : Pt))[i]? = some p := hp
  have ht' : (List.replicate nth rt0)[i]? = some t := ht
  rw [List.getElem?_replicate] at hp' ht'
  split at hp'
  · rename_i hl
    rw [if_pos hl] at ht'
    cases hp'
    cases ht'
    rfl
  · cases hp'
theorem own_labs : labsOf ownCode ownCode.length = ownLabs := by rfl
theorem has_code {w : World} {g : Nat} {U : Nat → Prop} (hU : U g) (h : w.heap[g]? = some (.cells (ownCode.flatMap Ins.cells).toArray 112 (0, 0))) : Has w U 112 6 (.slice (some ⟨g, 0, none⟩) 13 13) 13 (ownCode.flatMap Ins.cells) :=
  ⟨rfl, .inr ⟨g, 13, _, rfl, hU, h, Nat.le_refl _, by unfold maxLen; omega, Nat.le_refl _, rfl⟩⟩
theorem has_ens {w : World} {g : Nat} {U : Nat → Prop} (hU : U g) (h : w.heap[g]? = some (.cells (ownEns.flatMap En.cells).toArray 114 (0, 0))) : Has w U 114 3 (.slice (some ⟨g, 0, none⟩) 2 2) 2 (ownEns.flatMap En.cells) :=
  ⟨rfl, .inr ⟨g, 2, _, rfl, hU, h, Nat.le_refl _, by unfold maxLen; omega, Nat.le_refl _, rfl⟩⟩
theorem own_kinds : ∀ I ∈ ownCode, I.kd = 10 → ∃ l : Nat, I.a = l ∧ l ≤ 1000 := by
  intro I hI hk
  simp only [ownCode, List.mem_cons, List.not_mem_nil, or_false] at hI
  rcases hI with rfl | rfl | rfl | rfl | rfl | rfl | rfl | rfl | rfl | rfl | rfl | rfl | rfl <;> first | exact ⟨1, rfl, by decide⟩ | exact ⟨2, rfl, by decide⟩ | exact ⟨3, rfl, by decide⟩ | (exact absurd hk (by decide))
theorem start_sm {w1 w' : World} {B nth b g1 g2 : Nat} {ws : List Int} {vw vlb vt : Value} (hn : 1 ≤ nth) (hws : ws.length ≤ 8192) (c1 : w1.heap[g1]? = some (.cells (ownCode.flatMap Ins.cells).toArray 112 (0, 0))) (c2 : w1.heap[g2]? = some (.cells (ownEns.flatMap En.cells).toArray 114 (0, 0)))
    (l1 : B ≤ g1) (l2 : B ≤ g2) (hB : B ≤ w1.heap.size) (N : Nw w1 w' nth b ws ownCode (.slice (some ⟨g1, 0, none⟩) 13 13) (.slice (some ⟨g2, 0, none⟩) 2 2) vw vlb vt) :
    ∃ (q : Rc) (U : Nat → Prop), q.b = b ∧ Sm w' U q (Pm.new nth ws) ∧ ∀ k, U k → B ≤ k := by
  rcases N.th.2 with ⟨_, h0⟩ | ⟨gt, ct, _, rfl, _⟩
  · omega
  have hs := N.bel.size
  have e1 : g1 < w1.heap.size := (Array.getElem?_eq_some_iff.1 c1).1
  have e2 : g2 < w1.heap.size := (Array.getElem?_eq_some_iff.1 c2).1
  have e3 : b < w'.heap.size := (Array.getElem?_eq_some_iff.1 N.bx).1
  have e4 := N.lb
  have f : ∀ {e sz n : Nat} {v : Value} {xs : List Value}, Has w' (fun k => w1.heap.size ≤ k) e sz v n xs → Has w' (fun k => B ≤ k ∧ k < w'.heap.size) e sz v n xs := fun hv => hv.kept (fun _ _ => rfl) (fun k e => ⟨Nat.le_trans hB (hv.lt k e).1, (hv.lt k e).2⟩)
  refine ⟨⟨b, nth, 0, 0, 0, 0, 0, 0, vw, .slice (some ⟨g1, 0, none⟩) 13 13, vlb, .slice (some ⟨g2, 0, none⟩) 2 2, gt, nth, ct, nilS, nilS, nilS, ownCode, ownLabs, ownEns⟩, fun k => B ≤ k ∧ k < w'.heap.size, rfl, ⟨⟨rfl, rfl, rfl⟩, new_wf nth ws, hws, ⟨ws, List.replicate nth rt0, 0, [], []⟩, nilS, nilS, new_rel nth ws, ?_⟩, fun k hk => hk.1⟩
  have la := f N.la
  rw [own_labs] at la
  exact ⟨N.bx, f N.wd, has_code ⟨l1, by omega⟩ ((N.bel.block g1 e1).trans c1), la, has_ens ⟨l2, by omega⟩ ((N.bel.block g2 e2).trans c2), f N.th, List.length_replicate, ⟨rfl, .inl ⟨rfl, rfl⟩⟩, ⟨rfl, .inl ⟨rfl, rfl⟩⟩, ⟨Nat.le_trans hB e4, e3⟩, fun k hk => hk.2⟩
end Go.Proofs.Ytglppcoohojmpaa.Rf
