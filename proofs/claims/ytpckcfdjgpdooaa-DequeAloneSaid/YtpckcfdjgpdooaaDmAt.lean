/-
  THE DEQUE's TASKS: how they lie behind a step; work by its contract.
-/
import Derived.Shelf.Abstract
import Derived.Test.YtpckcfdjgpdooaaDmPush
import Derived.Test.YtpckcfdjgpdooaaDmTake
import Derived.Test.YtpckcfdjgpdooaaDmTake6
import Derived.Test.YtpckcfdjgpdooaaDmSteal
import Derived.Test.YtpckcfdjgpdooaaDmSteal4
namespace Go.Proofs.Ytpckcfdjgpdooaa.Dm
open Go.RowKit Mr Me Ma Gm
set_option linter.unusedVariables false
set_option linter.unusedSimpArgs false
set_option maxRecDepth 100000
/-- How they lie, with the blocks named. -/
structure AtB (r bc bl : Nat) (bt : Nat → Nat) (tk : Nat → Option Dt) (g : Lw) (tv : Nat → Value) (X : Nat → Obj → Prop) : Prop where
  com : X bc (comO r (lwp bl g))
  low : ∀ m k, g = some (m, k) → X bl (lowO m k) ∧ bl ≠ bc
  idle : ∀ i, tk i = none → tv i = .nilIface
  busy : ∀ i t, tk i = some t → tv i = .iface (ty t) (.pointer (some ⟨bt i, 0, none⟩)) ∧ X (bt i) (obj bc (bt i) t) ∧ bt i ≠ bc ∧ (g.isSome = true → bt i ≠ bl)
  dj : ∀ i j t u, tk i = some t → tk j = some u → bt i = bt j → i = j
theorem AtB.at_ {r bc bl : Nat} {bt : Nat → Nat} {tk : Nat → Option Dt} {g : Lw} {tv : Nat → Value} {X : Nat → Obj → Prop} (h : AtB r bc bl bt tk g tv X) : At r bc tk g tv X := ⟨bl, bt, h.com, h.low, h.idle, h.busy, h.dj⟩
section
variable {r bc bl : Nat} {bt : Nat → Nat} {tk : Nat → Option Dt} {g : Lw} {tv : Nat → Value} {X : Nat → Obj → Prop}
/-- A task goes on. -/
theorem AtB.go (h : AtB r bc bl bt tk g tv X) {i : Nat} {k k' : Dt} (hk : tk i = some k) (hty : ty k' = ty k) : AtB r bc bl bt (upd tk i (some k')) g (upd tv i (tv i)) (Xp X (bt i) (obj bc (bt i) k')) := by
  obtain ⟨b1, b2, b3, b4⟩ := h.busy i k hk
  refine ⟨.inr ⟨b3.symm, h.com⟩, fun m q e => ⟨.inr ⟨(b4 (by rw [e]; rfl)).symm, (h.low m q e).1⟩, (h.low m q e).2⟩, fun j hj => ?_, fun j t hj => ?_, fun a b t u ha hb e => ?_⟩
  · by_cases hji : j = i
    · subst hji; rw [upd_same] at hj; cases hj
    · rw [upd_other _ _ _ _ hji] at hj; rw [upd_other _ _ _ _ hji]; exact h.idle j hj
  · by_cases hji : j = i
    · subst hji
      rw [upd_same] at hj; cases hj
      rw [upd_same, hty]
      exact ⟨b1, .inl ⟨rfl, rfl⟩, b3, b4⟩
    · rw [upd_other _ _ _ _ hji] at hj
      rw [upd_other _ _ _ _ hji]
      obtain ⟨c1, c2, c3, c4⟩ := h.busy j t hj
      exact ⟨c1, .inr ⟨fun e => hji (h.dj j i t k hj hk e), c2⟩, c3, c4⟩
  · have key : ∀ a t, upd tk i (some k') a = some t → ∃ t', tk a = some t' := fun a t ha => by
      by_cases hai : a = i
      · subst hai; exact ⟨k, hk⟩
      · rw [upd_other _ _ _ _ hai] at ha; exact ⟨t, ha⟩
    obtain ⟨t', ha'⟩ := key a t ha
    obtain ⟨u', hb'⟩ := key b u hb
    exact h.dj a b t' u' ha' hb' e
/-- A task ends. -/
theorem AtB.fin (h : AtB r bc bl bt tk g tv X) {i : Nat} {k : Dt} (hk : tk i = some k) (o : Obj) : AtB r bc bl bt (upd tk i none) g (upd tv i .nilIface) (Xp X (bt i) o) := by
  obtain ⟨b1, b2, b3, b4⟩ := h.busy i k hk
  refine ⟨.inr ⟨b3.symm, h.com⟩, fun m q e => ⟨.inr ⟨(b4 (by rw [e]; rfl)).symm, (h.low m q e).1⟩, (h.low m q e).2⟩, fun j hj => ?_, fun j t hj => ?_, fun a b t u ha hb e => ?_⟩
  · by_cases hji : j = i
    · subst hji; rw [upd_same]
    · rw [upd_other _ _ _ _ hji] at hj; rw [upd_other _ _ _ _ hji]; exact h.idle j hj
  · by_cases hji : j = i
    · subst hji; rw [upd_same] at hj; cases hj
    · rw [upd_other _ _ _ _ hji] at hj
      rw [upd_other _ _ _ _ hji]
      obtain ⟨c1, c2, c3, c4⟩ := h.busy j t hj
      exact ⟨c1, .inr ⟨fun e => hji (h.dj j i t k hj hk e), c2⟩, c3, c4⟩
  · have hai : a ≠ i := fun e' => by subst e'; rw [upd_same] at ha; cases ha
    have hbi : b ≠ i := fun e' => by subst e'; rw [upd_same] at hb; cases hb
    rw [upd_other _ _ _ _ hai] at ha
    rw [upd_other _ _ _ _ hbi] at hb
    exact h.dj a b t u ha hb e
/-- What a take put down is no longer told. -/
theorem AtB.wipe (h : AtB r bc bl bt tk g tv X) : AtB r bc bl bt tk none tv (Xp X bc (comO r none)) :=
  ⟨.inl ⟨rfl, rfl⟩, fun m q e => (by cases e), h.idle, fun j t hj => by
    obtain ⟨c1, c2, c3, c4⟩ := h.busy j t hj
    exact ⟨c1, .inr ⟨c3, c2⟩, c3, fun e => by cases e⟩, h.dj⟩
/-- A take has put bottom down. -/
theorem AtB.lower (h : AtB r bc bl bt tk g tv X) {bl' : Nat} (h1 : bl' ≠ bc) (h2 : ∀ k o, X k o → k ≠ bl') (m q : Int) : AtB r bc bl' bt tk (some (m, q)) tv (Xp (fun k o => X k o ∨ (k = bl' ∧ o = lowO m q)) bc (comO r (some ⟨bl', 0, none⟩))) :=
  ⟨.inl ⟨rfl, rfl⟩, fun m' q' e => (by cases e; exact ⟨.inr ⟨h1, .inr ⟨rfl, rfl⟩⟩, h1⟩), h.idle, fun j t hj => by
    obtain ⟨c1, c2, c3, c4⟩ := h.busy j t hj
    exact ⟨c1, .inr ⟨c3, .inl c2⟩, c3, fun _ => h2 _ _ c2⟩, h.dj⟩
end
/-! Work. -/
theorem meS (t : Dt) (b n : Nat) (w : World) : (method (n + 1) (ty t) (.pointer (some ⟨b, 0, none⟩)) "Step").run Try.prog w = .ok (115, .pointer (some ⟨b, 0, none⟩)) w := by
  cases t <;> kernel_rfl
theorem meR (t : Dt) (b n : Nat) (w : World) : (method (n + 1) (ty t) (.pointer (some ⟨b, 0, none⟩)) "Ready").run Try.prog w = .ok (114, .pointer (some ⟨b, 0, none⟩)) w := by
  cases t <;> kernel_rfl
theorem work_d (t : Dt) (b f : Nat) (fr : Bool) {W : World} {a : Value} {rr : Bool} {Q : World → Prop} (h0 : W.cell? ⟨b, 0, none⟩ = some .nilFunc) (hc : W.cell? ⟨b, 1, none⟩ = some (fnv f b))
    (C : Calls Try.prog 115 #[.pointer (some ⟨b, 0, none⟩), a] W fun e w' => e = .returned (.bool rr) ∧ Q w') :
    Calls Try.prog 40 #[.iface (ty t) (.pointer (some ⟨b, 0, none⟩)), .bool fr, a] W fun e w' => e = .returned (.bool rr) ∧ Q w' := by
  cases fr with
  | false => exact work_step (meS t b) (enters_of Try.func115 (by kernel_rfl) rfl) C
  | true =>
    refine work_no (Q1 := fun w1 => w1 = W) (meR t b) (enters_of Try.func114 (by kernel_rfl) rfl) (meS t b) (enters_of Try.func115 (by kernel_rfl) rfl) (course_ready h0 hc) (fun w1 e => ?_)
    subst e
    exact C
theorem ss_ext {a b : Ss} (h1 : a.ths = b.ths) (h2 : a.n = b.n) (h3 : a.cls = b.cls) (h4 : a.shs = b.shs) (h5 : a.ws = b.ws) (h6 : a.mv = b.mv) (h7 : a.lg = b.lg) (h8 : a.ah = b.ah) : a = b := by
  cases a; cases b; simp only at *; subst h1 h2 h3 h4 h5 h6 h7 h8; rfl
theorem set_self {α : Type} {l : List α} {i : Nat} {x : α} (h : l[i]? = some x) : l.set i x = l := by
  apply List.ext_getElem?
  intro j
  rw [List.getElem?_set]
  split
  · rename_i e; subst e
    rw [if_pos (List.getElem?_eq_some_iff.1 h).1, h]
  · rfl
theorem setP_some {cls : List Cl} {c : Nat} {cl : Cl} (h : cls[c]? = some cl) (m : Int) : cls.set c { cl with pt := m } = setP cls c (some m) := by unfold setP; rw [h]
theorem setP_none (cls : List Cl) (c : Nat) : setP cls c none = cls := rfl
end Go.Proofs.Ytpckcfdjgpdooaa.Dm
