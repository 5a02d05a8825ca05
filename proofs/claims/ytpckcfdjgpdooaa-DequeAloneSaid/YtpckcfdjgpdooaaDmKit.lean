/-
  THE DEQUE's KIT: the look-up, Kit.begin; the contract BegOk.
-/
import Derived.Test.YtpckcfdjgpdooaaDmNews
import Derived.Test.YtpckcfdjgpdooaaDmStep
namespace Go.Proofs.Ytpckcfdjgpdooaa.Dm
open Go.RowKit Mr Me Ma Gm
set_option linter.unusedVariables false
set_option linter.unusedSimpArgs false
set_option maxRecDepth 100000
section
variable {r bc bl : Nat} {bt : Nat → Nat} {tk : Nat → Option Dt} {g : Lw} {tv : Nat → Value} {X : Nat → Obj → Prop}
/-- A new task. -/
theorem AtB.new (h : AtB r bc bl bt tk g tv X) {i : Nat} (hk : tk i = none) (b : Nat) (k : Dt) (hb : ∀ q o, X q o → q ≠ b) (hl : g.isSome = true → bl ≠ b) : AtB r bc bl (upd bt i b) (upd tk i (some k)) g (upd tv i (.iface (ty k) (.pointer (some ⟨b, 0, none⟩)))) (fun q o => X q o ∨ (q = b ∧ o = obj bc b k)) := by
  refine ⟨.inl h.com, fun m q e => ⟨.inl (h.low m q e).1, (h.low m q e).2⟩, fun j hj => ?_, fun j t hj => ?_, fun j q t u ha hb' e => ?_⟩
  · by_cases hji : j = i
    · subst hji; rw [upd_same] at hj; cases hj
    · rw [upd_other _ _ _ _ hji] at hj ⊢; exact h.idle j hj
  · by_cases hji : j = i
    · subst hji
      rw [upd_same] at hj; cases hj
      rw [upd_same, upd_same]
      exact ⟨rfl, .inr ⟨rfl, rfl⟩, fun e => hb _ _ h.com e.symm, fun hg e => hl hg e.symm⟩
    · rw [upd_other _ _ _ _ hji] at hj
      rw [upd_other _ _ _ _ hji, upd_other _ _ _ _ hji]
      obtain ⟨c1, c2, c3, c4⟩ := h.busy j t hj
      exact ⟨c1, .inl c2, c3, c4⟩
  · by_cases hji : j = i
    · subst hji
      by_cases hqi : q = j
      · exact hqi.symm
      · rw [upd_other _ _ _ _ hqi] at hb'
        rw [upd_same, upd_other _ _ _ _ hqi] at e
        exact absurd e.symm (hb _ _ (h.busy q u hb').2.1)
    · rw [upd_other _ _ _ _ hji] at ha
      by_cases hqi : q = i
      · subst hqi
        rw [upd_same, upd_other _ _ _ _ hji] at e
        exact absurd e (hb _ _ (h.busy j t ha).2.1)
      · rw [upd_other _ _ _ _ hqi] at hb'
        rw [upd_other _ _ _ _ hji, upd_other _ _ _ _ hqi] at e
        exact h.dj j q t u ha hb' e
end
def mkF (cs c1 c2 : Nat) (op : Int) : Value :=
  if op = 90 then .func (.func 50) #[] #[.pointer (some ⟨c1, 0, none⟩)]
  else if op = 91 then .func (.func 50) #[] #[.pointer (some ⟨c2, 0, none⟩)]
  else if op = 92 then .func (.func 38) #[] #[.pointer (some ⟨cs, 0, none⟩)]
  else .nilFunc
theorem look {W : World} {km cs c1 c2 : Nat} (hm : W.heap[km]? = some (.map #[⟨.int .i64 90, .func (.func 50) #[] #[.pointer (some ⟨c1, 0, none⟩)], 0⟩, ⟨.int .i64 91, .func (.func 50) #[] #[.pointer (some ⟨c2, 0, none⟩)], 1⟩, ⟨.int .i64 92, .func (.func 38) #[] #[.pointer (some ⟨cs, 0, none⟩)], 2⟩] 3)) (op : Int) : (Instr.lookup 68 (.map (some km)) (.int .i64 op) false).run Try.prog W = .ok (mkF cs c1 c2 op) W := by
  have hch : ∀ b, (Instr.checkKey b 10000 25 (.int .i64 op)).run Try.prog W = .ok () W := fun b => by cases b <;> kernel_rfl
  have hget := show (getObj km).run Try.prog W = .ok _ W from by simp [getObj, Sem.run, hm]; rfl
  unfold mkF
  by_cases h1 : op = 90
  · subst h1
    simp [Instr.lookup, run_underlying Try.underlying68, hget, hch, Instr.findKey, run_underlying Try.underlying25, Instr.findNow, Instr.sameNow]
  · by_cases h2 : op = 91
    · subst h2
      simp [Instr.lookup, run_underlying Try.underlying68, hget, hch, Instr.findKey, run_underlying Try.underlying25, Instr.findNow, Instr.sameNow]
    · by_cases h3 : op = 92
      · subst h3
        simp [Instr.lookup, run_underlying Try.underlying68, hget, hch, Instr.findKey, run_underlying Try.underlying25, Instr.findNow, Instr.sameNow]
      · have b1 : (op == 90) = false := by simpa using h1
        have b2 : (op == 91) = false := by simpa using h2
        have b3 : (op == 92) = false := by simpa using h3
        simp [Instr.lookup, run_underlying Try.underlying68, hget, hch, Instr.findKey, run_underlying Try.underlying25, Instr.findNow, Instr.sameNow, b1, b2, b3, h1, h2, h3]
set_option maxHeartbeats 1000000 in
theorem beg_d (r bc cs c1 c2 : Nat) : BegOk (dqY r) (dqL r bc cs c1 c2) (Iv r) := by
  intro P i t op arg data tv X V K km hI hb ht hk hat hXV hka hKl
  obtain ⟨bl, bt, a1, a2, a3, a4, a5⟩ := hat
  have hA : AtB r bc bl bt (tkF P.pts) P.g tv X := ⟨a1, a2, a3, a4, a5⟩
  obtain ⟨m1, m2, m3, m4, k1, k2, k3, k4⟩ := hka
  have hki : tkF P.pts i = none := (tkF_at ht).trans hk
  have hlt : ∀ q o, X q o → q < V.heap.size := fun q o h => by
    have := hXV q o h
    exact (Array.getElem?_eq_some_iff.1 this).1
  have hsM : (V.alloc (mvO i op arg data)).heap.size = V.heap.size + 1 := by simp
  have L : ∀ o, (Instr.lookup 68 (.map (some km)) (.int .i64 op) false).run Try.prog (V.alloc o) = .ok (mkF cs c1 c2 op) (V.alloc o) := fun o => look ((Below.heap_alloc _ _ _ (hKl km k1)).trans m1) op
  have cM : ∀ {a : Nat} {v : Value}, K a → V.cell? ⟨a, 0, none⟩ = some v → (V.alloc (mvO i op arg data)).cell? ⟨a, 0, none⟩ = some v := fun ha hv => (World.cell?_of_block (Below.heap_alloc _ _ _ (hKl _ ha))).trans hv
  have bM : ∀ w, Below (V.alloc (mvO i op arg data)).heap.size (V.alloc (mvO i op arg data)) w → Below V.heap.size V w := fun w hB => ((Below.refl _ _).alloc (Nat.le_refl _) _).trans (hB.mono (by rw [hsM]; omega))
  have SOME : ∀ (k : Dt) (d : Nat) (w' : World) (e : Ending), MadeI (V.alloc (mvO i op arg data)) d bc k e w' → e = .returned (.iface (ty k) (.pointer (some ⟨V.heap.size + 1 + d, 0, none⟩))) ∧ (∃ ty' x, e = .returned (.iface ty' x) ∧ Below V.heap.size V w' ∧ ∃ N : Nat → Obj → Prop, (∀ k o, N k o → V.heap.size ≤ k ∧ w'.heap[k]? = some o) ∧ (dqL r bc cs c1 c2).at_ (upd (tkF P.pts) i (some k)) P.g (upd tv i (.iface ty' x)) (fun k o => X k o ∨ N k o)) := fun k d w' e hM => by
    obtain ⟨rfl, h1, h2⟩ := hM
    rw [hsM] at h2 ⊢
    refine ⟨rfl, _, _, rfl, bM _ h1, fun q o => q = V.heap.size + 1 + d ∧ o = obj bc (V.heap.size + 1 + d) k, ?_, (hA.new hki (V.heap.size + 1 + d) k (fun q o hq => ?_) (fun hg => ?_)).at_⟩
    · rintro q o ⟨rfl, rfl⟩
      exact ⟨by omega, h2⟩
    · have := hlt q o hq; omega
    · obtain ⟨⟨m, q⟩, hg⟩ := Option.isSome_iff_exists.1 hg
      have := hlt _ _ (hA.low m q hg).1; omega
  have FIN : ∀ (k : Dt) (d g ca : Nat) (hg : mkF cs c1 c2 op = .func (.func g) #[] #[.pointer (some ⟨ca, 0, none⟩)]) (eg : ∀ args w, (callFunc g args).run Try.prog w = .ok (.enter g args) w), Calls Try.prog g #[.int .i64 (i : Int), .agg #[.int .i64 (i : Int), .int .i64 op, .int .i64 arg, .int .i64 data], .pointer (some ⟨ca, 0, none⟩)] (V.alloc (mvO i op arg data)) (MadeI (V.alloc (mvO i op arg data)) d bc k) →
      Calls Try.prog 42 #[.map (some km), .agg #[.int .i64 (i : Int), .int .i64 op, .int .i64 arg, .int .i64 data]] V fun e w' => ∃ ty x, e = .returned (.iface ty x) ∧ Below V.heap.size V w' ∧ ∃ N : Nat → Obj → Prop, (∀ k o, N k o → V.heap.size ≤ k ∧ w'.heap[k]? = some o) ∧ (dqL r bc cs c1 c2).at_ (upd (tkF P.pts) i (some k)) P.g (upd tv i (.iface ty x)) (fun k o => X k o ∨ N k o) := fun k d g ca hg eg C => by
    refine (kit_call (W := V) (r := .iface (ty k) (.pointer (some ⟨V.heap.size + 1 + d, 0, none⟩))) (Q := fun w' => MadeI (V.alloc (mvO i op arg data)) d bc k (.returned (.iface (ty k) (.pointer (some ⟨V.heap.size + 1 + d, 0, none⟩)))) w') i op arg data (fun o => by rw [L o, hg]) eg (C.mono fun e w' hM => ?_)).mono ?_
    · have e1 := (SOME k d w' e hM).1
      subst e1
      exact ⟨rfl, hM⟩
    · rintro e w' ⟨rfl, hM⟩
      exact (SOME k d w' _ hM).2
  have NONE : mkF cs c1 c2 op = .nilFunc → Calls Try.prog 42 #[.map (some km), .agg #[.int .i64 (i : Int), .int .i64 op, .int .i64 arg, .int .i64 data]] V fun e w' => e = .returned .nilIface ∧ Below V.heap.size V w' := fun hg => by
    refine (kit_none (W := V) i op arg data (fun o => by rw [L o, hg])).mono ?_
    rintro e w' ⟨rfl, rfl⟩
    exact ⟨rfl, bM _ (Below.refl _ _)⟩
  have NO : ∀ ca, mkF cs c1 c2 op = .func (.func 50) #[] #[.pointer (some ⟨ca, 0, none⟩)] → i ≠ 0 → Calls Try.prog 42 #[.map (some km), .agg #[.int .i64 (i : Int), .int .i64 op, .int .i64 arg, .int .i64 data]] V fun e w' => e = .returned .nilIface ∧ Below V.heap.size V w' := fun ca hg hi => by
    refine (kit_call (W := V) i op arg data (fun o => by rw [L o, hg]) (enters_of Try.func50 (by kernel_rfl) rfl) (own_no i hi i op arg data)).mono ?_
    rintro e w' ⟨rfl, hB⟩
    exact ⟨rfl, bM _ hB⟩
  have eY : (dqY r).mkr i op arg data P.g = mk i op arg data P.g := rfl
  rw [eY]
  by_cases h1 : op = 90
  · have hg : mkF cs c1 c2 op = .func (.func 50) #[] #[.pointer (some ⟨c1, 0, none⟩)] := by simp [mkF, h1]
    by_cases hi : i = 0
    · have e : mk i op arg data P.g = some (.push 1 arg 0) := by simp [mk, h1, hi]
      rw [e]
      have C := own_push (cM k3 m3) (cM k2 m2) (i : Int) op arg data
      refine FIN _ 2 _ _ hg (enters_of Try.func50 (by kernel_rfl) rfl) ?_
      have e0 : (i : Int) = 0 := by omega
      rw [e0] at C ⊢
      exact C
    · have e : mk i op arg data P.g = none := by simp [mk, h1, hi]
      rw [e]
      exact NO _ hg hi
  · by_cases h2 : op = 91
    · have hg : mkF cs c1 c2 op = .func (.func 50) #[] #[.pointer (some ⟨c2, 0, none⟩)] := by simp [mkF, h2]
      by_cases hi : i = 0
      · have e : mk i op arg data P.g = some (.take 1 0 0 0) := by simp [mk, h2, hi]
        rw [e]
        have C := own_take (cM k4 m4) (cM k2 m2) (i : Int) op arg data
        refine FIN _ 2 _ _ hg (enters_of Try.func50 (by kernel_rfl) rfl) ?_
        have e0 : (i : Int) = 0 := by omega
        rw [e0] at C ⊢
        exact C
      · have e : mk i op arg data P.g = none := by simp [mk, h2, hi]
        rw [e]
        exact NO _ hg hi
    · by_cases h3 : op = 92
      · have hg : mkF cs c1 c2 op = .func (.func 38) #[] #[.pointer (some ⟨cs, 0, none⟩)] := by simp [mkF, h3]
        have e : mk i op arg data P.g = some (.steal 1 0 0) := by simp [mk, h3]
        rw [e]
        exact FIN _ 1 _ _ hg (enters_of Try.func38 (by kernel_rfl) rfl) (kit3_any (cM k2 m2) i i op arg data)
      · have e : mk i op arg data P.g = none := by simp [mk, h1, h2, h3]
        rw [e]
        exact NONE (by simp [mkF, h1, h2, h3])
end Go.Proofs.Ytpckcfdjgpdooaa.Dm
