/-
  DEQUE: slices.SortFunc of calls.
-/
import Derived.Test.YtaojggnflblgnaaHdCmp
import Derived.Test.YtaojggnflblgnaaShelfE
namespace Go.Proofs.Ytaojggnflblgnaa.Hd
open Go.RowKit Mr Md
set_option linter.unusedVariables false
set_option linter.unusedSimpArgs false
set_option maxRecDepth 100000
theorem cmpI_cases (x y : Int) : (x < y ∧ cmpI x y = -1) ∨ (x = y ∧ cmpI x y = 0) ∨ (y < x ∧ cmpI x y = 1) := by
  rcases Int.lt_trichotomy x y with h | h | h
  · exact .inl ⟨h, cmpI_lt h⟩
  · subst h; exact .inr (.inl ⟨rfl, cmpI_eq _⟩)
  · exact .inr (.inr ⟨h, cmpI_gt h⟩)
theorem ltC_iff (a b : Cq) : ltOf cmpC a b = true ↔ Cq.lt a b := by
  unfold ltOf cmpC Cq.lt
  rcases cmpI_cases a.pt b.pt with ⟨h1, e1⟩ | ⟨h1, e1⟩ | ⟨h1, e1⟩ <;> rcases cmpI_cases (rk a.op) (rk b.op) with ⟨h2, e2⟩ | ⟨h2, e2⟩ | ⟨h2, e2⟩ <;> simp [e1, e2] <;> omega
theorem swoC : Sort.SWO (ltOf cmpC) := by
  refine ⟨fun x => ?_, fun x y z h1 h2 => ?_, fun x y z h1 h2 => ?_⟩
  · cases h : ltOf cmpC x x with
    | false => rfl
    | true => exact absurd ((ltC_iff x x).1 h) Cq.lt_irrefl
  · exact (ltC_iff _ _).2 (Cq.lt_trans ((ltC_iff _ _).1 h1) ((ltC_iff _ _).1 h2))
  · have n1 : ¬ Cq.lt x y := fun h => by rw [(ltC_iff _ _).2 h] at h1; cases h1
    have n2 : ¬ Cq.lt y z := fun h => by rw [(ltC_iff _ _).2 h] at h2; cases h2
    cases h : ltOf cmpC x z with
    | false => rfl
    | true => have := (ltC_iff _ _).1 h; unfold Cq.lt at *; omega
theorem cqs_flat (l : List Cq) (j : Nat) (hj : j < l.length * 9) : (cqs l)[j]? = some ((Cq.row (l.toArray)[j / 9]!)[j % 9]!) := by
  have h1 : j / 9 < l.length := by omega
  have h2 : j % 9 < 9 := Nat.mod_lt _ (by omega)
  have := cqs_get l (j / 9) (l[j / 9]) (List.getElem?_eq_getElem h1) (j % 9) h2
  rw [show j / 9 * 9 + j % 9 = j from by omega] at this
  rw [this]
  have e : (l.toArray)[j / 9]! = l[j / 9] := by simp [h1]
  rw [e, List.getElem?_eq_getElem (by simpa [Cq.row] using h2), List.getElem!_eq_getElem?_getD, List.getElem?_eq_getElem (by simpa [Cq.row] using h2)]
  rfl
theorem sortC_any {W : World} {S : Nat → Prop} {u : Value} {l : List Cq} (hu : Own W S 52 9 u l.length (cqs l)) (hsz : l.length < 4611686018427387904) :
    Calls Try.prog 21 #[u, .func (.func 22) #[] #[]] W fun e w' => e = .returned (.tuple #[]) ∧ Fr W w' S ∧ ∃ l' : List Cq, l'.Perm l ∧ l'.Pairwise (fun a b => ¬ Cq.lt b a) ∧ Sl w' S 9 u l'.length (cqs l') := by
  by_cases h0 : l.length = 0
  · obtain ⟨au, cu, rfl, hc, _⟩ := hu.form
    have hz : l = [] := List.eq_nil_of_length_eq_zero h0
    subst hz
    have := AnyF.slices_SortFunc_none Try.laysEv au cu (.func (.func 22) #[] #[]) W
    refine Calls.mono (show Calls Try.prog 21 _ W _ from this) ?_
    rintro e w' ⟨rfl, rfl⟩
    exact ⟨rfl, Fr.refl _ _, [], List.Perm.refl _, List.Pairwise.nil, hu.sl⟩
  · obtain ⟨g, o, cu, cur, rfl, hc, hm, hSg, hg, hs, hx⟩ := hu.there (by omega)
    have hl2 := (Array.getElem?_eq_some_iff.1 hg).1
    have hH : Sort.HoldsK Cq.row 9 W g o l.toArray := by
      intro j hj
      have hj' : j < l.length * 9 := by simpa using hj
      refine ⟨?_, by simp [World.frozen?, hg]⟩
      rw [own_cells hg hx j _ (cqs_flat l j hj'), Sort.get_flatK _ _ _ _ (by simpa using hj')]
      rfl
    have hcmp : CmpLays Try.prog 22 #[] Cq.row 9 cmpC g o l.toArray.size W := fun m os dk hdk x y => inOrder_any x y _
    have eg : ∀ args w, (callFunc 22 args).run Try.prog w = .ok (.enter 22 args) w := enters_of Try.func22 (by kernel_rfl) rfl
    have := AnyQ.slices_SortFunc Try.laysEv 9 Try.isAgg52 Try.sizeOf52 Cq.row (fun _ => rfl) (fun x v hv => by simp [Cq.row] at hv; rcases hv with rfl | rfl | rfl | rfl | rfl | rfl | rfl | rfl | rfl <;> rfl) cmpC swoC 22 #[] g o cu l.toArray W eg hcmp hH hl2 (by simpa using hsz)
    refine Calls.mono (show Calls Try.prog 21 #[.slice (some ⟨g, o, none⟩) l.length cu, .func (.func 22) #[] #[]] W _ from this) ?_
    rintro e w' ⟨rfl, d', n, os, hp, hsd, rfl⟩
    have hsz' : d'.size = l.length := by have := hp.1; simpa using this
    have hperm : d'.toList.Perm l := by
      have h9 : (List.take l.length d'.toList).Perm l := by
        have := hp.2.2
        simpa [hsz', Array.extract_size] using this
      rwa [List.take_of_length_le (by simp [hsz'])] at h9
    refine ⟨rfl, ⟨rfl, rfl, rfl, by unfold sortWorldK Sort.putRowK; simp, fun k hk hne => ?_⟩, d'.toList, hperm, ?_, ?_⟩
    · unfold sortWorldK
      rw [Sort.heap_grow_old _ _ (by unfold Sort.putRowK; simpa using hk)]
      have : g ≠ k := fun e => hne (by rw [← e]; exact hSg)
      simp [Sort.putRowK, Sort.putRow, Sort.mapBlock, Sort.ahead, Array.getElem?_modify, this]
    · rw [List.pairwise_iff_getElem]
      intro i j hi hj hij hlt
      have h1 := hsd i j (Nat.zero_le _) hij (by simp at hj ⊢; omega)
      simp at hi hj
      simp [hi, hj] at h1
      rw [(ltC_iff _ _).2 (by simpa using hlt)] at h1
      cases h1
    · have el : d'.toList.length = l.length := by simp [hsz']
      refine ⟨cqs_length _, _, cu, by rw [el], by rw [el]; exact hc, .inr ⟨g, o, rfl, hSg, by unfold sortWorldK Sort.putRowK; simp; omega, fun j v hv => ?_⟩⟩
      have hj : j < l.length * 9 := by have := (List.getElem?_eq_some_iff.1 hv).1; rw [cqs_length, el] at this; exact this
      unfold sortWorldK
      rw [Sort.cell?_grow _ _ _ (by unfold Sort.putRowK; simpa using hl2)]
      have := Sort.cell?_putRow id (Sort.ahead W n) g o (Sort.flatK Cq.row 9 l.toArray) (Sort.flatK Cq.row 9 d') hH (by simp [hsz']) j (by simpa [hsz'] using hj)
      unfold Sort.putRowK
      rw [this, Sort.get_flatK _ _ _ _ (by rw [hsz']; exact hj)]
      rw [cqs_flat _ _ (by rw [el]; exact hj)] at hv
      simpa using hv
end Go.Proofs.Ytaojggnflblgnaa.Hd
