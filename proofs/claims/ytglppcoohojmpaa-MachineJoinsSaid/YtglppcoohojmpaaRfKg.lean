import Derived.Test.YtglppcoohojmpaaRfLive
/-
  A kit by its contract.
-/
namespace Go.Proofs.Ytglppcoohojmpaa.Rf
open Go.RowKit Go.Shelf Mr Me Ma
/-- What Kit.begin answers at a world, where the calls are look and bump, of addresses below lim. -/
structure Kb (km lim : Nat) (W : World) : Prop where
  look : ∀ (th data : Int) (ad : Nat), ad < lim → Calls Try.prog 51 #[.map (some km), .agg #[.int .i64 th, .int .i64 1, .int .i64 (ad : Int), .int .i64 data]] W fun e w' => e = .returned (.iface 104 (.pointer (some ⟨W.heap.size + 1 + 1, 0, none⟩))) ∧ w' = ((W.alloc (mvO th 1 ad data)).alloc (mvO th 1 ad data)).alloc (lookO ad)
  bump : ∀ (th data : Int) (ad : Nat), ad < lim → Calls Try.prog 51 #[.map (some km), .agg #[.int .i64 th, .int .i64 2, .int .i64 (ad : Int), .int .i64 data]] W fun e w' => e = .returned (.iface 108 (.pointer (some ⟨W.heap.size + 1 + 1, 0, none⟩))) ∧ w' = ((W.alloc (mvO th 2 ad data)).alloc (mvO th 2 ad data)).alloc (bumpO ad 0 false)
  no : ∀ (th op arg data : Int), ¬ ((op = 1 ∨ op = 2) ∧ 0 ≤ arg ∧ arg < lim) → Calls Try.prog 51 #[.map (some km), .agg #[.int .i64 th, .int .i64 op, .int .i64 arg, .int .i64 data]] W fun e w' => e = .returned .nilIface ∧ Below W.heap.size W w'
/-- A kit: its contract, wherever its blocks stand as they do. -/
def KG (W : World) (K : Nat → Prop) (km lim : Nat) : Prop := (∀ k, K k → k < W.heap.size) ∧ ∀ W' : World, (∀ k, K k → W'.heap[k]? = W.heap[k]?) → Kb km lim W'
theorem KG.kept {W W' : World} {K : Nat → Prop} {km lim : Nat} (h : KG W K km lim) (hk : ∀ k, K k → W'.heap[k]? = W.heap[k]?) : KG W' K km lim :=
  ⟨fun k hk' => by
    have h1 := h.1 k hk'
    have h2 := hk k hk'
    rw [Array.getElem?_eq_getElem h1] at h2
    exact (Array.getElem?_eq_some_iff.1 h2).1, fun W2 h2 => h.2 W2 (fun k hk' => (h2 k hk').trans (hk k hk'))⟩
theorem KG.here {W : World} {K : Nat → Prop} {km lim : Nat} (h : KG W K km lim) : Kb km lim W := h.2 W (fun _ _ => rfl)
/-- The machine's own kit is one. -/
theorem Kt.kg {W : World} {K : Nat → Prop} {km size s1 a1 s2 a2 : Nat} (h : Kt W K km size s1 a1 s2 a2) (hl : ∀ k, K k → k < W.heap.size) : KG W K km size := by
  refine ⟨hl, fun W' hk => ?_⟩
  have h' := h.kept hk
  refine ⟨fun th data ad had => kit_some h' h'.c1 th 1 data ad had _ _ (own1_any ad) (enters_of Try.func34 (by kernel_rfl) rfl) rfl, fun th data ad had => kit_some h' h'.c2 th 2 data ad had _ _ (own2_any ad) (enters_of Try.func35 (by kernel_rfl) rfl) rfl, fun th op arg data hno => ?_⟩
  by_cases h1 : op = 1
  · subst h1
    refine (kit_out h' h'.c1 th 1 arg data (by omega) rfl).mono ?_
    rintro e w' ⟨rfl, rfl⟩
    exact ⟨rfl, ((Below.refl _ _).alloc (Nat.le_refl _) _).alloc (by simp) _⟩
  · by_cases h2 : op = 2
    · subst h2
      refine (kit_out h' h'.c2 th 2 arg data (by omega) rfl).mono ?_
      rintro e w' ⟨rfl, rfl⟩
      exact ⟨rfl, ((Below.refl _ _).alloc (Nat.le_refl _) _).alloc (by simp) _⟩
    · refine (kit_none h' th op arg data h1 h2).mono ?_
      rintro e w' ⟨rfl, rfl⟩
      exact ⟨rfl, (Below.refl _ _).alloc (Nat.le_refl _) _⟩
end Go.Proofs.Ytglppcoohojmpaa.Rf
