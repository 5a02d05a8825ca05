import Derived.Test.YtglppcoohojmpaaRfPe
/-
  MachineJoins, without the model.
-/
namespace Go.Proofs.Ytglppcoohojmpaa.Rf
open Go.RowKit Go.Shelf Mr Me Ma
set_option linter.unusedVariables false
theorem pm_out (P : Pm) : (P.move (-1) 0 0 0).2 = false ∧ (P.move (-1) 0 0 0).1.ws = P.ws ∧ (P.move (-1) 0 0 0).1.pts = P.pts ∧ (P.move (-1) 0 0 0).1.cls = P.cls := by
  unfold Pm.move
  by_cases h : 65536 ≤ P.n
  · rw [if_pos h]; exact ⟨rfl, rfl, rfl, rfl⟩
  · rw [if_neg h, if_neg (by omega)]; exact ⟨rfl, rfl, rfl, rfl⟩
theorem moveL_yes (P : Pm) (lim : Nat) (th op arg data : Int) (h : ¬ ((op = 1 ∨ op = 2) ∧ (lim : Int) ≤ arg)) : P.moveL lim th op arg data = P.move th op arg data := if_neg h
theorem moveL_no (P : Pm) (lim : Nat) (th op arg data : Int) (h : (op = 1 ∨ op = 2) ∧ (lim : Int) ≤ arg) : P.moveL lim th op arg data = P.move (-1) 0 0 0 := if_pos h
theorem moveL_whole (P : Pm) (lim : Nat) (hl : P.ws.length = lim) (th op arg data : Int) : P.moveL lim th op arg data = P.move th op arg data := by
  by_cases h : (op = 1 ∨ op = 2) ∧ (lim : Int) ≤ arg
  · rw [moveL_no P lim th op arg data h]
    unfold Pm.move
    by_cases hf : 65536 ≤ P.n
    · rw [if_pos hf, if_pos hf]
    · rw [if_neg hf, if_neg hf, if_neg (by omega)]
      split
      · split
        · rfl
        · rw [if_neg (by omega)]
          split
          · rfl
          · unfold Pm.begins
            rw [if_neg]
            rintro ⟨_, _, g⟩
            have : arg < (P.ws.length : Int) := g
            omega
      · rfl
  · exact moveL_yes P lim th op arg data h
theorem src_has2 {W : World} {S : Nat → Prop} {p : Option Addr} {n q : Nat} {ws : List Int} (h : Has W S 59 1 (.slice p n q) n (wrd ws)) (hl : n = ws.length) : Src W p n q ws := by
  subst hl
  obtain ⟨a, c, e, hs⟩ := Src.of_has h
  cases e
  exact hs
/-- Nobody is at work, and nobody was. -/
def Ic (P : Pm) : Prop := (∀ (i : Nat) (t : Pt), P.pts[i]? = some t → t.tk.busy = false) ∧ P.cls = []
theorem Ic.new (nth : Nat) (ws : List Int) : Ic (Pm.new nth ws) := by
  refine ⟨fun i t h => ?_, rfl⟩
  have := List.mem_of_getElem? h
  simp only [Pm.new] at this
  obtain ⟨_, rfl⟩ := List.mem_replicate.1 this
  rfl
theorem Ic.move {P : Pm} (h : Ic P) (th op arg data : Int) : (P.moveL 0 th op arg data).2 = false ∧ Ic (P.moveL 0 th op arg data).1 ∧ (P.moveL 0 th op arg data).1.ws = P.ws := by
  by_cases hr : (op = 1 ∨ op = 2) ∧ ((0 : Nat) : Int) ≤ arg
  · rw [moveL_no P 0 th op arg data hr]
    obtain ⟨e1, e2, e3, e4⟩ := pm_out P
    exact ⟨e1, ⟨by rw [e3]; exact h.1, by rw [e4]; exact h.2⟩, e2⟩
  · rw [moveL_yes P 0 th op arg data hr]
    unfold Pm.move
    split
    · exact ⟨rfl, h, rfl⟩
    · split
      · split
        · exact ⟨rfl, h, rfl⟩
        · rename_i t ht
          have hb := h.1 _ t ht
          split
          · obtain ⟨tk, fr, call⟩ := t
            cases tk with
            | idle => exact ⟨rfl, h, rfl⟩
            | look ad => cases hb
            | bump ad x ld => cases hb
          · rw [if_neg (by rw [hb]; decide)]
            unfold Pm.begins
            rw [if_neg (by rintro ⟨g1, g2, _⟩; exact hr ⟨g1, by simpa using g2⟩)]
            exact ⟨rfl, h, rfl⟩
      · exact ⟨rfl, h, rfl⟩
theorem pe_run_a {w W : World} {Z : Nat → Prop} {x y z : Value} {g1 g2 : Nat} {Ka Kb Kc : Nat → Prop} {kma kmb kmc la lb : Nat} {qa qb qc : Ph} {qw qp : Rc} {Pa Pb Pc Pw Pp : Pm} (h : Pe w W Z x y z g1 g2 Ka Kb Kc kma kmb kmc la lb qa qb qc qw qp Pa Pb Pc Pw Pp) : Calls Try.prog 17 #[.pointer (some ⟨qa.b, 0, none⟩)] W fun e w' => ∃ v1 v2 v4, e = .returned (runV v1 v2 (.slice none 0 0) v4) ∧ Has w' (fun k => W.heap.size ≤ k) 78 9 v1 Pa.cls.length (clc Pa.cls) ∧ Has w' (fun k => W.heap.size ≤ k) 128 7 v2 Pa.lg.length (lgc Pa.lg) ∧ Has w' (fun k => W.heap.size ≤ k) 59 1 v4 Pa.ws.length (wrd Pa.ws) ∧ Below W.heap.size W w' := by
  obtain ⟨U, e0, e1, e2, e3, e4, _⟩ := h.ex
  exact liveG_run e0
theorem pe_run_b {w W : World} {Z : Nat → Prop} {x y z : Value} {g1 g2 : Nat} {Ka Kb Kc : Nat → Prop} {kma kmb kmc la lb : Nat} {qa qb qc : Ph} {qw qp : Rc} {Pa Pb Pc Pw Pp : Pm} (h : Pe w W Z x y z g1 g2 Ka Kb Kc kma kmb kmc la lb qa qb qc qw qp Pa Pb Pc Pw Pp) : Calls Try.prog 17 #[.pointer (some ⟨qb.b, 0, none⟩)] W fun e w' => ∃ v1 v2 v4, e = .returned (runV v1 v2 (.slice none 0 0) v4) ∧ Has w' (fun k => W.heap.size ≤ k) 78 9 v1 Pb.cls.length (clc Pb.cls) ∧ Has w' (fun k => W.heap.size ≤ k) 128 7 v2 Pb.lg.length (lgc Pb.lg) ∧ Has w' (fun k => W.heap.size ≤ k) 59 1 v4 Pb.ws.length (wrd Pb.ws) ∧ Below W.heap.size W w' := by
  obtain ⟨U, e0, e1, e2, e3, e4, _⟩ := h.ex
  exact liveG_run e1
theorem pe_run_c {w W : World} {Z : Nat → Prop} {x y z : Value} {g1 g2 : Nat} {Ka Kb Kc : Nat → Prop} {kma kmb kmc la lb : Nat} {qa qb qc : Ph} {qw qp : Rc} {Pa Pb Pc Pw Pp : Pm} (h : Pe w W Z x y z g1 g2 Ka Kb Kc kma kmb kmc la lb qa qb qc qw qp Pa Pb Pc Pw Pp) : Calls Try.prog 17 #[.pointer (some ⟨qc.b, 0, none⟩)] W fun e w' => ∃ v1 v2 v4, e = .returned (runV v1 v2 (.slice none 0 0) v4) ∧ Has w' (fun k => W.heap.size ≤ k) 78 9 v1 Pc.cls.length (clc Pc.cls) ∧ Has w' (fun k => W.heap.size ≤ k) 128 7 v2 Pc.lg.length (lgc Pc.lg) ∧ Has w' (fun k => W.heap.size ≤ k) 59 1 v4 Pc.ws.length (wrd Pc.ws) ∧ Below W.heap.size W w' := by
  obtain ⟨U, e0, e1, e2, e3, e4, _⟩ := h.ex
  exact liveG_run e2
theorem pe_told_w {w W : World} {Z : Nat → Prop} {x y z : Value} {g1 g2 : Nat} {Ka Kb Kc : Nat → Prop} {kma kmb kmc la lb : Nat} {qa qb qc : Ph} {qw qp : Rc} {Pa Pb Pc Pw Pp : Pm} (h : Pe w W Z x y z g1 g2 Ka Kb Kc kma kmb kmc la lb qa qb qc qw qp Pa Pb Pc Pw Pp) : Calls Try.prog 18 #[.pointer (some ⟨qw.b, 0, none⟩)] W fun e w' => ∃ v1 v2 v4, e = .returned (runV v1 v2 (.slice none 0 0) v4) ∧ Has w' (fun k => W.heap.size ≤ k) 78 9 v1 Pw.cls.length (clc Pw.cls) ∧ Has w' (fun k => W.heap.size ≤ k) 128 7 v2 Pw.lg.length (lgc Pw.lg) ∧ Has w' (fun k => W.heap.size ≤ k) 59 1 v4 Pw.ws.length (wrd Pw.ws) ∧ Below W.heap.size W w' := by
  obtain ⟨U, e0, e1, e2, e3, e4, _⟩ := h.ex
  exact Told_sm e3.s
theorem pe_told_p {w W : World} {Z : Nat → Prop} {x y z : Value} {g1 g2 : Nat} {Ka Kb Kc : Nat → Prop} {kma kmb kmc la lb : Nat} {qa qb qc : Ph} {qw qp : Rc} {Pa Pb Pc Pw Pp : Pm} (h : Pe w W Z x y z g1 g2 Ka Kb Kc kma kmb kmc la lb qa qb qc qw qp Pa Pb Pc Pw Pp) : Calls Try.prog 18 #[.pointer (some ⟨qp.b, 0, none⟩)] W fun e w' => ∃ v1 v2 v4, e = .returned (runV v1 v2 (.slice none 0 0) v4) ∧ Has w' (fun k => W.heap.size ≤ k) 78 9 v1 Pp.cls.length (clc Pp.cls) ∧ Has w' (fun k => W.heap.size ≤ k) 128 7 v2 Pp.lg.length (lgc Pp.lg) ∧ Has w' (fun k => W.heap.size ≤ k) 59 1 v4 Pp.ws.length (wrd Pp.ws) ∧ Below W.heap.size W w' := by
  obtain ⟨U, e0, e1, e2, e3, e4, _⟩ := h.ex
  exact Told_sm e4.s
end Go.Proofs.Ytglppcoohojmpaa.Rf
