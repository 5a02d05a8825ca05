/-
  DEQUE: the calls by their points, pure: one order.
-/
import Derived.Test.YtaojggnflblgnaaHdPts
namespace Go.Proofs.Ytaojggnflblgnaa.Hd
open Go.RowKit Mr Md
set_option linter.unusedVariables false
set_option linter.unusedSimpArgs false
def cAt (cs : List Cq) (x : Int) : Cq := (cs[x.toNat]?).getD default
theorem cAt_get {cs : List Cq} {i : Nat} {c : Cq} (h : cs[i]? = some c) : cAt cs (i : Int) = c := by simp [cAt, h]
theorem pix_map_ge (cs : List Cq) : ∀ (ds : List Cq) (k : Nat), cs.drop k = ds → (pix ds k).map (cAt cs) = pts ds := by
  intro ds
  induction ds with
  | nil => intro k _; rfl
  | cons d ds ih =>
    intro k h
    have hk : cs[k]? = some d := by
      have := congrArg (fun l => l[0]?) h
      simpa using this
    have h2 : cs.drop (k + 1) = ds := by
      have := congrArg (fun l => l.drop 1) h
      simpa [List.drop_drop] using this
    rw [pix, List.map_append, ih (k + 1) h2]
    unfold pts
    by_cases hp : d.pt = -1
    · rw [if_neg (by simp [hp]), List.filter_cons_of_neg (by simp [hp])]; rfl
    · rw [if_pos hp, List.filter_cons_of_pos (by simp [hp])]
      simp [cAt_get hk]
theorem pix_map (cs : List Cq) : (pix cs 0).map (cAt cs) = pts cs := pix_map_ge cs cs 0 rfl
/-- By their points. -/
def srt (cs : List Cq) : List Cq := (pts cs).mergeSort (fun a b => decide (a.key ≤ b.key))
theorem srt_perm (cs : List Cq) : (srt cs).Perm (pts cs) := List.mergeSort_perm _ _
theorem srt_up (cs : List Cq) : (srt cs).Pairwise (fun a b => ¬ Cq.lt b a) := by
  have h := List.pairwise_mergeSort (le := fun a b : Cq => decide (a.key ≤ b.key)) (fun a b c h1 h2 => by simp at *; omega) (fun a b => by simp; omega) (pts cs)
  refine h.imp (fun {a b} h => ?_)
  rw [key_lt]
  simp at h
  omega
theorem by_same {cs : List Cq} {l : List Int} (hp : l.Perm (pix cs 0)) (hs : l.Pairwise (fun a b => ptAt cs a ≤ ptAt cs b)) :
    apR (l.map (cAt cs)) = apR (srt cs) ∧ (apR (srt cs) = true → l.map (cAt cs) = srt cs) := by
  have h1 : (l.map (cAt cs)).Perm (pts cs) := by rw [← pix_map]; exact hp.map _
  have h2 : (l.map (cAt cs)).Pairwise (fun a b => ¬ Cq.lt b a) := by
    rw [List.pairwise_map]
    refine (List.Pairwise.and_mem.1 hs).imp (fun {a b} h => ?_)
    obtain ⟨ha, hb, hab⟩ := h
    have ha' := hp
    obtain ⟨i, c, rfl, hc, -⟩ := pix_call (cs := cs) (i := cs.length) (by rw [List.take_length]; exact hp) ha
    obtain ⟨j, d, rfl, hd, -⟩ := pix_call (cs := cs) (i := cs.length) (by rw [List.take_length]; exact hp) hb
    rw [cAt_get hc, cAt_get hd, key_lt]
    rw [ptAt_get hc, ptAt_get hd] at hab
    omega
  have h3 := srt_perm cs
  have h4 := srt_up cs
  have e := ap_eq (h1.trans h3.symm) h2 h4
  exact ⟨e, fun h => ap_same (h1.trans h3.symm) h2 h4 (e.trans h)⟩
end Go.Proofs.Ytaojggnflblgnaa.Hd
