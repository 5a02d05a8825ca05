import Derived.Test.YtglppcoohojmpaaRfJoin
import Derived.Test.YtglppcoohojmpaaRfDuo
import Derived.Test.YtglppcoohojmpaaRfSpP
/-
  Two of the document's machines that share their code.
-/
namespace Go.Proofs.Ytglppcoohojmpaa.Rf
open Go.RowKit Go.Shelf Mr Me Ma
/-- The document's machine, its own blocks V, its code at g1 and its entries at g2. -/
structure Ss (W : World) (V : Nat → Prop) (g1 g2 : Nat) (q : Rc) (P : Pm) : Prop where
  s : Sm W (fun k => V k ∨ k = g1 ∨ k = g2) q P
  cd : q.vcd = .slice (some ⟨g1, 0, none⟩) 13 13
  en : q.ven = .slice (some ⟨g2, 0, none⟩) 2 2
theorem Ss.ul {W : World} {V : Nat → Prop} {g1 g2 : Nat} {q : Rc} {P : Pm} (h : Ss W V g1 g2 q P) : ∀ k, V k → k < W.heap.size := fun k hk => h.s.ul k (.inl hk)
/-- What another did with its own blocks, and with the code as it left it, keeps this one. -/
theorem Ss.kept {W W' : World} {V V2 : Nat → Prop} {g1 g2 : Nat} {q q2 : Rc} {P P2 : Pm} (h : Ss W V g1 g2 q P) (g : Ss W' V2 g1 g2 q2 P2) (hk : ∀ k, V k → k ≠ g1 → k ≠ g2 → W'.heap[k]? = W.heap[k]?) (hs : W.heap.size ≤ W'.heap.size) : Ss W' V g1 g2 q P := by
  obtain ⟨⟨h1, h2, h3, s, vc, vl, h4, h5⟩, hcd, hen⟩ := h
  obtain ⟨⟨i1, _, _, s2, vc2, vl2, _, i5⟩, jcd, jen⟩ := g
  refine ⟨⟨h1, h2, h3, s, vc, vl, h4, ?_⟩, hcd, hen⟩
  have c0 := h5.cd
  have n0 := h5.en
  rw [hcd] at c0
  rw [hen] at n0
  have c1 := i5.cd
  have n1 := i5.en
  rw [jcd, i1.code] at c1
  rw [jen, i1.ens] at n1
  have f : ∀ {e sz n : Nat} {v : Value} {xs : List Value}, 112 ≠ e → 114 ≠ e → Has W (fun k => V k ∨ k = g1 ∨ k = g2) e sz v n xs → Has W' (fun k => V k ∨ k = g1 ∨ k = g2) e sz v n xs := fun {e sz n v xs} ne1 ne2 hv => hv.kept (fun k e' => by
      have a1 : k ≠ g1 := fun ek => has_apart c0 hv ne1 g1 rfl (by rw [← ek]; exact e')
      have a2 : k ≠ g2 := fun ek => has_apart n0 hv ne2 g2 rfl (by rw [← ek]; exact e')
      rcases (hv.lt k e').1 with g | g | g
      · exact hk k g a1 a2
      · exact absurd g a1
      · exact absurd g a2) (fun k e' => (hv.lt k e').1)
  have hbx := h5.bx
  unfold Rc.box at hbx
  have b1 : q.b ≠ g1 := fun e => not_row hbx c0 (by decide) (by rw [e]; rfl)
  have b2 : q.b ≠ g2 := fun e => not_row hbx n0 (by decide) (by rw [e]; rfl)
  have hb : W'.heap[q.b]? = W.heap[q.b]? := by
    rcases h5.ub with g | g | g
    · exact hk _ g b1 b2
    · exact absurd g b1
    · exact absurd g b2
  refine ⟨hb.trans h5.bx, f (by decide) (by decide) h5.wd, ?_, f (by decide) (by decide) h5.lb, ?_, f (by decide) (by decide) h5.th, h5.tn, f (by decide) (by decide) h5.cl, f (by decide) (by decide) h5.lg, h5.ub, fun k hk' => Nat.lt_of_lt_of_le (h5.ul k hk') hs⟩
  · rw [hcd, h1.code]
    exact c1.kept (fun _ _ => rfl) (fun k e => by simp [Value.ownBlock] at e; exact .inr (.inl e.symm))
  · rw [hen, h1.ens]
    exact n1.kept (fun _ _ => rfl) (fun k e => by simp [Value.ownBlock] at e; exact .inr (.inr e.symm))
/-- Where nothing of it was touched. -/
theorem Ss.same {W W' : World} {V : Nat → Prop} {g1 g2 : Nat} {q : Rc} {P : Pm} (h : Ss W V g1 g2 q P) (hk : ∀ k, V k ∨ k = g1 ∨ k = g2 → W'.heap[k]? = W.heap[k]?) (hs : W.heap.size ≤ W'.heap.size) : Ss W' V g1 g2 q P := ⟨h.s.kept hk hs, h.cd, h.en⟩
theorem share_move {W : World} {V : Nat → Prop} {g1 g2 : Nat} {q : Rc} {P : Pm} (h : Ss W V g1 g2 q P) (th op arg data : Int) :
    Calls Try.prog 15 #[.pointer (some ⟨q.b, 0, none⟩), .agg #[.int .i64 th, .int .i64 op, .int .i64 arg, .int .i64 data]] W fun e w' => e = .returned (.bool (P.move th op arg data).2) ∧ ∃ V', Ss w' V' g1 g2 q (P.move th op arg data).1 ∧ (∀ k, V' k → (V k ∨ W.heap.size ≤ k) ∧ k ≠ g1 ∧ k ≠ g2) ∧ Fr W w' (fun k => V k ∨ k = g1 ∨ k = g2) := by
  refine (Move_any h.s th op arg data).mono ?_
  rintro e w' ⟨he, U', f1, f2, f3, f4⟩
  refine ⟨he, fun k => U' k ∧ k ≠ g1 ∧ k ≠ g2, ⟨?_, h.cd, h.en⟩, fun k hk => ⟨?_, hk.2⟩, f4⟩
  · obtain ⟨h1, h2, h3, s, vc, vl, h4, h5⟩ := f1
    refine ⟨h1, h2, h3, s, vc, vl, h4, h5.kept (fun _ _ => rfl) (fun k hk => ?_) (fun k hk => ?_)⟩
    · by_cases e1 : k = g1
      · exact .inr (.inl e1)
      · by_cases e2 : k = g2
        · exact .inr (.inr e2)
        · exact .inl ⟨hk, e1, e2⟩
    · rcases hk with hk | hk | hk
      · exact h5.ul k hk.1
      · exact h5.ul k (f2 k (.inr (.inl hk)))
      · exact h5.ul k (f2 k (.inr (.inr hk)))
  · rcases f3 k hk.1 with g | g
    · rcases g with g | g | g
      · exact .inl g
      · exact absurd g hk.2.1
      · exact absurd g hk.2.2
    · exact .inr g
/-- A new one over code that stands there. -/
theorem start_sh {w1 w' : World} {nth b g1 g2 : Nat} {ws : List Int} {vw vlb vt : Value} (hn : 1 ≤ nth) (hws : ws.length ≤ 8192) (c1 : w1.heap[g1]? = some (.cells (ownCode.flatMap Ins.cells).toArray 112 (0, 0))) (c2 : w1.heap[g2]? = some (.cells (ownEns.flatMap En.cells).toArray 114 (0, 0)))
    (N : Nw w1 w' nth b ws ownCode (.slice (some ⟨g1, 0, none⟩) 13 13) (.slice (some ⟨g2, 0, none⟩) 2 2) vw vlb vt) :
    ∃ (q : Rc) (V : Nat → Prop), q.b = b ∧ Ss w' V g1 g2 q (Pm.new nth ws) ∧ ∀ k, V k → w1.heap.size ≤ k := by
  rcases N.th.2 with ⟨_, h0⟩ | ⟨gt, ct, _, rfl, _⟩
  · omega
  have hs := N.bel.size
  have e1 : g1 < w1.heap.size := (Array.getElem?_eq_some_iff.1 c1).1
  have e2 : g2 < w1.heap.size := (Array.getElem?_eq_some_iff.1 c2).1
  have e3 : b < w'.heap.size := (Array.getElem?_eq_some_iff.1 N.bx).1
  have f : ∀ {e sz n : Nat} {v : Value} {xs : List Value}, Has w' (fun k => w1.heap.size ≤ k) e sz v n xs → Has w' (fun k => (w1.heap.size ≤ k ∧ k < w'.heap.size) ∨ k = g1 ∨ k = g2) e sz v n xs := fun hv => hv.kept (fun _ _ => rfl) (fun k e => .inl ⟨(hv.lt k e).1, (hv.lt k e).2⟩)
  refine ⟨⟨b, nth, 0, 0, 0, 0, 0, 0, vw, .slice (some ⟨g1, 0, none⟩) 13 13, vlb, .slice (some ⟨g2, 0, none⟩) 2 2, gt, nth, ct, nilS, nilS, nilS, ownCode, ownLabs, ownEns⟩, fun k => w1.heap.size ≤ k ∧ k < w'.heap.size, rfl, ⟨⟨⟨rfl, rfl, rfl⟩, new_wf nth ws, hws, ⟨ws, List.replicate nth rt0, 0, [], []⟩, nilS, nilS, new_rel nth ws, ?_⟩, rfl, rfl⟩, fun k hk => hk.1⟩
  have la := f N.la
  rw [own_labs] at la
  exact ⟨N.bx, f N.wd, has_code (.inr (.inl rfl)) ((N.bel.block g1 e1).trans c1), la, has_ens (.inr (.inr rfl)) ((N.bel.block g2 e2).trans c2), f N.th, List.length_replicate, ⟨rfl, .inl ⟨rfl, rfl⟩⟩, ⟨rfl, .inl ⟨rfl, rfl⟩⟩, .inl ⟨N.lb, e3⟩, fun k hk => by rcases hk with hk | hk | hk; exact hk.2; omega; omega⟩
end Go.Proofs.Ytglppcoohojmpaa.Rf
