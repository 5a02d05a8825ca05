/-
  MachineIdle, without the model: the moves that did something, alone.
-/
import Derived.Test.YtiobchadjcekcaaMacMx
namespace Go.Proofs.Ytiobchadjcekcaa.Ma
open Go.RowKit Mr Me
section
variable (nth : Nat) (ws : List Int) (ms : List Mv)
def did (i : Nat) : Bool := ((Pk nth ws ms i).move (ms[i]?.getD noMv).th (ms[i]?.getD noMv).op (ms[i]?.getD noMv).arg (ms[i]?.getD noMv).data).2
/-- Of the first i moves those that did something. -/
def kt : Nat → List Mv
  | 0 => []
  | i + 1 => if did nth ws ms i = true then kt i ++ [ms[i]?.getD noMv] else kt i
def nmb (k : Int) : Int := if k < 0 then k else ((kt nth ws ms k.toNat).length : Int)
def renC (c : Cl) : Cl := { c with beg := nmb nth ws ms c.beg, fin := nmb nth ws ms c.fin, pt := nmb nth ws ms c.pt }
def renA (a : Acc) : Acc := { a with mv := nmb nth ws ms a.mv }
/-- P' is P but for the moves' numbers. -/
structure Rn (P P' : Pm) : Prop where
  pts : P'.pts = P.pts
  wds : P'.ws = P.ws
  cls : P'.cls = P.cls.map (renC nth ws ms)
  lg : P'.lg = P.lg.map (renA nth ws ms)
  n : P'.n = P'.cls.length + P'.lg.length
theorem kt_le (i : Nat) : (kt nth ws ms i).length ≤ i := by
  induction i with
  | zero => simp [kt]
  | succ i ih =>
    unfold kt
    split
    · rw [List.length_append, List.length_singleton]; omega
    · omega
theorem nmb_nat (k : Nat) : nmb nth ws ms (k : Int) = ((kt nth ws ms k).length : Int) := by
  unfold nmb
  rw [if_neg (by omega)]
  simp
theorem nmb_neg : nmb nth ws ms (-1) = -1 := by simp [nmb]
variable {nth ws ms}
theorem Rn.move {P P' P1 P1' : Pm} {m : Mv} {b b' : Bool} (h : Rn nth ws ms P P') (hn : nmb nth ws ms (P.n : Int) = (P'.n : Int)) (mx : Mx P m P1 b) (mx' : Mx P' m P1' b') (hb : b = true) : b' = true ∧ Rn nth ws ms P1 P1' := by
  have gc : ∀ (c : Nat) (cl : Cl), P.cls[c]? = some cl → P'.cls[c]? = some (renC nth ws ms cl) := fun c cl hc => by rw [h.cls]; simp [hc]
  have cs : ∀ (c : Nat) (cl : Cl) (x : Int), P.cls[c]? = some cl → (P.cls.map (renC nth ws ms)).set c (ended (renC nth ws ms cl) P'.n x) = (P.cls.set c (ended cl P.n x)).map (renC nth ws ms) := fun c cl x hc => by
    rw [List.map_set]
    congr 1
    simp only [renC, ended, hn]
  cases mx with
  | out h1 hb1 e => rw [hb1] at hb; cases hb
  | rest t h0 ht hd hb1 e => rw [hb1] at hb; cases hb
  | begins t h0 ht hi hop ha0 ha1 hb1 e =>
    cases mx' with
    | out h1' hb' e' => exact absurd ⟨h0, by have := (List.getElem?_eq_some_iff.1 ht).1; rw [h.pts]; omega⟩ h1'
    | rest t' h0' ht' hd' hb' e' =>
      rw [h.pts, ht] at ht'
      cases ht'
      exact absurd (.inr ⟨by omega, hi, hop, ha0, by rw [h.wds]; exact ha1⟩) hd'
    | begins t' h0' ht' hi' hop' ha0' ha1' hb' e' =>
      refine ⟨hb', ?_⟩
      subst e; subst e'
      refine ⟨by simp only; rw [h.pts, h.cls]; simp, h.wds, ?_, h.lg, by simp only [Pm.count, List.length_append, List.length_singleton]; have := h.n; omega⟩
      simp only
      rw [h.cls, List.map_append, List.map_singleton]
      simp only [renC, hn, nmb_neg]
    | look ad fr c cl h0' ht' hop' hcl hb' e' => omega
    | load ad x fr c cl h0' ht' hop' hcl hb' e' => omega
    | hit ad x fr c cl h0' ht' hop' hcl hx hb' e' => omega
    | miss ad x fr c cl h0' ht' hop' hcl hx hb' e' => omega
  | look ad fr c cl h0 ht hop hcl hb1 e =>
    cases mx' with
    | out h1' hb' e' => exact absurd ⟨h0, by have := (List.getElem?_eq_some_iff.1 ht).1; rw [h.pts]; omega⟩ h1'
    | rest t' h0' ht' hd' hb' e' =>
      rw [h.pts, ht] at ht'
      cases ht'
      exact absurd (.inl ⟨hop, rfl⟩) hd'
    | begins t' h0' ht' hi' hop' ha0' ha1' hb' e' => omega
    | look ad' fr' c' cl' h0' ht' hop' hcl' hb' e' =>
      rw [h.pts, ht] at ht'
      cases ht'
      rw [gc c cl hcl] at hcl'
      cases hcl'
      refine ⟨hb', ?_⟩
      subst e; subst e'
      refine ⟨by simp only; rw [h.pts], h.wds, ?_, ?_, by simp only [Pm.count, List.length_append, List.length_singleton, List.length_set]; have := h.n; omega⟩
      · simp only; rw [h.wds, h.cls]; exact cs c cl _ hcl
      · simp only; rw [h.lg, h.wds, List.map_append, List.map_singleton]; simp only [renA, hn]
    | load ad' x' fr' c' cl' h0' ht' hop' hcl' hb' e' => rw [h.pts, ht] at ht'; simp at ht'
    | hit ad' x' fr' c' cl' h0' ht' hop' hcl' hx' hb' e' => rw [h.pts, ht] at ht'; simp at ht'
    | miss ad' x' fr' c' cl' h0' ht' hop' hcl' hx' hb' e' => rw [h.pts, ht] at ht'; simp at ht'
  | load ad x fr c cl h0 ht hop hcl hb1 e =>
    cases mx' with
    | out h1' hb' e' => exact absurd ⟨h0, by have := (List.getElem?_eq_some_iff.1 ht).1; rw [h.pts]; omega⟩ h1'
    | rest t' h0' ht' hd' hb' e' =>
      rw [h.pts, ht] at ht'
      cases ht'
      exact absurd (.inl ⟨hop, rfl⟩) hd'
    | begins t' h0' ht' hi' hop' ha0' ha1' hb' e' => omega
    | look ad' fr' c' cl' h0' ht' hop' hcl' hb' e' => rw [h.pts, ht] at ht'; simp at ht'
    | load ad' x' fr' c' cl' h0' ht' hop' hcl' hb' e' =>
      rw [h.pts, ht] at ht'
      cases ht'
      refine ⟨hb', ?_⟩
      subst e; subst e'
      refine ⟨by simp only; rw [h.pts, h.wds], h.wds, h.cls, ?_, by simp only [Pm.count, List.length_append, List.length_singleton]; have := h.n; omega⟩
      simp only; rw [h.lg, h.wds, List.map_append, List.map_singleton]; simp only [renA, hn]
    | hit ad' x' fr' c' cl' h0' ht' hop' hcl' hx' hb' e' => rw [h.pts, ht] at ht'; simp at ht'
    | miss ad' x' fr' c' cl' h0' ht' hop' hcl' hx' hb' e' => rw [h.pts, ht] at ht'; simp at ht'
  | hit ad x fr c cl h0 ht hop hcl hx hb1 e =>
    cases mx' with
    | out h1' hb' e' => exact absurd ⟨h0, by have := (List.getElem?_eq_some_iff.1 ht).1; rw [h.pts]; omega⟩ h1'
    | rest t' h0' ht' hd' hb' e' =>
      rw [h.pts, ht] at ht'
      cases ht'
      exact absurd (.inl ⟨hop, rfl⟩) hd'
    | begins t' h0' ht' hi' hop' ha0' ha1' hb' e' => omega
    | look ad' fr' c' cl' h0' ht' hop' hcl' hb' e' => rw [h.pts, ht] at ht'; simp at ht'
    | load ad' x' fr' c' cl' h0' ht' hop' hcl' hb' e' => rw [h.pts, ht] at ht'; simp at ht'
    | hit ad' x' fr' c' cl' h0' ht' hop' hcl' hx' hb' e' =>
      rw [h.pts, ht] at ht'
      cases ht'
      rw [gc c cl hcl] at hcl'
      cases hcl'
      refine ⟨hb', ?_⟩
      subst e; subst e'
      refine ⟨by simp only; rw [h.pts], by simp only; rw [h.wds], ?_, ?_, by simp only [Pm.count, List.length_append, List.length_singleton, List.length_set]; have := h.n; omega⟩
      · simp only; rw [h.cls]; exact cs c cl _ hcl
      · simp only; rw [h.lg, List.map_append, List.map_singleton]; simp only [renA, hn]
    | miss ad' x' fr' c' cl' h0' ht' hop' hcl' hx' hb' e' =>
      rw [h.pts, ht] at ht'
      cases ht'
      rw [h.wds] at hx'
      exact absurd hx hx'
  | miss ad x fr c cl h0 ht hop hcl hx hb1 e =>
    cases mx' with
    | out h1' hb' e' => exact absurd ⟨h0, by have := (List.getElem?_eq_some_iff.1 ht).1; rw [h.pts]; omega⟩ h1'
    | rest t' h0' ht' hd' hb' e' =>
      rw [h.pts, ht] at ht'
      cases ht'
      exact absurd (.inl ⟨hop, rfl⟩) hd'
    | begins t' h0' ht' hi' hop' ha0' ha1' hb' e' => omega
    | look ad' fr' c' cl' h0' ht' hop' hcl' hb' e' => rw [h.pts, ht] at ht'; simp at ht'
    | load ad' x' fr' c' cl' h0' ht' hop' hcl' hb' e' => rw [h.pts, ht] at ht'; simp at ht'
    | hit ad' x' fr' c' cl' h0' ht' hop' hcl' hx' hb' e' =>
      rw [h.pts, ht] at ht'
      cases ht'
      rw [h.wds] at hx'
      exact absurd hx' hx
    | miss ad' x' fr' c' cl' h0' ht' hop' hcl' hx' hb' e' =>
      rw [h.pts, ht] at ht'
      cases ht'
      refine ⟨hb', ?_⟩
      subst e; subst e'
      refine ⟨by simp only; rw [h.pts], h.wds, h.cls, ?_, by simp only [Pm.count, List.length_append, List.length_singleton]; have := h.n; omega⟩
      simp only; rw [h.lg, h.wds, List.map_append, List.map_singleton]; simp only [renA, hn]
variable (nth ws ms)
def Ik (i : Nat) : Pm := (Pm.new nth ws).play (kt nth ws ms i)
theorem ik_hs (i : Nat) : Hs (Ik nth ws ms i) := (Hs.new nth ws).play _
theorem ik_n (i : Nat) (hi : i ≤ 65536) : (Ik nth ws ms i).n = (kt nth ws ms i).length := by
  have := kt_le nth ws ms i
  have h := play_n (Pm.new nth ws) (kt nth ws ms i) (by simp [Pm.new]; omega)
  rw [Ik, h]
  simp [Pm.new]
theorem idle_rn (hms : ms.length ≤ 65536) (i : Nat) (hi : i ≤ ms.length) : Rn nth ws ms (Pk nth ws ms i) (Ik nth ws ms i) := by
  induction i with
  | zero => exact ⟨rfl, rfl, rfl, rfl, rfl⟩
  | succ i ih =>
    have ih := ih (by omega)
    have mx := pk_mx nth ws ms hms i (by omega)
    have en := pk_n nth ws ms hms i (by omega)
    have ik := ik_n nth ws ms i (by omega)
    have kl := kt_le nth ws ms i
    cases hd : did nth ws ms i with
    | false =>
      have e1 : kt nth ws ms (i + 1) = kt nth ws ms i := by simp [kt, hd]
      have e2 : Ik nth ws ms (i + 1) = Ik nth ws ms i := by unfold Ik; rw [e1]
      rw [e2]
      have hd' : ((Pk nth ws ms i).move (ms[i]?.getD noMv).th (ms[i]?.getD noMv).op (ms[i]?.getD noMv).arg (ms[i]?.getD noMv).data).2 = false := hd
      rw [hd'] at mx
      cases mx with
      | out h1 hb e => rw [e]; exact ⟨ih.pts, ih.wds, ih.cls, ih.lg, ih.n⟩
      | rest t h0 ht hd hb e => rw [e]; exact ⟨ih.pts, ih.wds, ih.cls, ih.lg, ih.n⟩
      | begins t h0 ht hi hop ha0 ha1 hb e => cases hb
      | look ad fr c cl h0 ht hop hcl hb e => cases hb
      | load ad x fr c cl h0 ht hop hcl hb e => cases hb
      | hit ad x fr c cl h0 ht hop hcl hx hb e => cases hb
      | miss ad x fr c cl h0 ht hop hcl hx hb e => cases hb
    | true =>
      have e1 : kt nth ws ms (i + 1) = kt nth ws ms i ++ [ms[i]?.getD noMv] := by simp [kt, hd]
      have e2 : Ik nth ws ms (i + 1) = ((Ik nth ws ms i).move (ms[i]?.getD noMv).th (ms[i]?.getD noMv).op (ms[i]?.getD noMv).arg (ms[i]?.getD noMv).data).1 := by
        unfold Ik Pm.play
        rw [e1, List.foldl_append]
        rfl
      have mx' := move_mx (ik_hs nth ws ms i) (ms[i]?.getD noMv) (by omega)
      rw [← e2] at mx'
      exact (ih.move (by rw [en, nmb_nat, ik]) mx mx' hd).2
end
end Go.Proofs.Ytiobchadjcekcaa.Ma
