/-
  MachineCounters, without the model.
-/
import Derived.Test.YtiobchadjcekcaaMacExt
namespace Go.Proofs.Ytiobchadjcekcaa.Ma
open Go.RowKit Mr Me
def Pk (nth : Nat) (ws : List Int) (ms : List Mv) (k : Nat) : Pm := (Pm.new nth ws).play (ms.take k)
section
variable (nth : Nat) (ws : List Int) (ms : List Mv) (hms : ms.length ≤ 65536)
theorem pk_hs (k : Nat) : Hs (Pk nth ws ms k) := (Hs.new nth ws).play _
include hms in
theorem pk_n (k : Nat) (hk : k ≤ ms.length) : (Pk nth ws ms k).n = k := by
  have := play_n (Pm.new nth ws) (ms.take k) (by simp [Pm.new]; omega)
  rw [Pk, this]
  simp [Pm.new]; omega
include hms in
theorem pk_ext (k : Nat) (hk : k ≤ ms.length) : Ext (Pk nth ws ms k) ((Pm.new nth ws).play ms) := by
  have e : (Pm.new nth ws).play ms = (Pk nth ws ms k).play (ms.drop k) := by
    unfold Pk Pm.play
    rw [← List.foldl_append, List.take_append_drop]
  rw [e]
  exact Ext.play (pk_hs nth ws ms k) _ (by rw [pk_n nth ws ms hms k hk]; simp; omega)
include hms in
theorem pk_at (k : Nat) (hk : k < ms.length) :
    ((∀ (c : Nat) (cl : Cl), ((Pm.new nth ws).play ms).cls[c]? = some cl → cl.pt ≠ k) ∧ (Pk nth ws ms (k + 1)).ws = (Pk nth ws ms k).ws) ∨
    ∃ (c0 : Nat) (cl0 : Cl), ((Pm.new nth ws).play ms).cls[c0]? = some (ended cl0 k ((Pk nth ws ms k).ws[cl0.arg.toNat]?.getD 0)) ∧ (Pk nth ws ms (k + 1)).ws = bumped (Pk nth ws ms k).ws cl0 ∧ ∀ (c : Nat) (cl : Cl), ((Pm.new nth ws).play ms).cls[c]? = some cl → c ≠ c0 → cl.pt ≠ k := by
  have e := pk_n nth ws ms hms k (by omega)
  have e' := pk_n nth ws ms hms (k + 1) hk
  have hc : Ch (Pk nth ws ms k) (Pk nth ws ms (k + 1)) := by
    have := move_ch (pk_hs nth ws ms k) (ms[k]?.getD noMv).th (ms[k]?.getD noMv).op (ms[k]?.getD noMv).arg (ms[k]?.getD noMv).data
    have s := play_snoc (Pm.new nth ws) ms k hk
    unfold Pk at this ⊢
    rw [s]
    exact this
  have := at_move (pk_hs nth ws ms k) ((Hs.new nth ws).play ms) hc (by omega) (pk_ext nth ws ms hms (k + 1) hk)
  rw [e] at this
  exact this
theorem ch_len {P P' : Pm} (h : Ch P P') : P'.ws.length = P.ws.length := by
  cases h with
  | none hc hw => rw [hw]
  | begins b hc hw hb hp hf => rw [hw]
  | ends c0 cl0 hcl hf hc hw => rw [hw]; unfold bumped; split <;> simp
theorem play_len {P : Pm} (h : Hs P) (l : List Mv) : (P.play l).ws.length = P.ws.length := by
  induction l generalizing P with
  | nil => rfl
  | cons m l ih => exact (ih (h.move m.th m.op m.arg m.data)).trans (ch_len (move_ch h m.th m.op m.arg m.data))
theorem ch_cls {P P' : Pm} (h : Ch P P') : P'.cls.length ≤ P.cls.length + 1 := by
  cases h with
  | none hc hw => rw [hc]; omega
  | begins b hc hw hb hp hf => rw [hc]; simp
  | ends c0 cl0 hcl hf hc hw => rw [hc]; simp
theorem play_cls {P : Pm} (h : Hs P) (l : List Mv) : (P.play l).cls.length ≤ P.cls.length + l.length := by
  induction l generalizing P with
  | nil => exact Nat.le_refl _
  | cons m l ih =>
    have h1 := ih (h.move m.th m.op m.arg m.data)
    have h2 := ch_cls (move_ch h m.th m.op m.arg m.data)
    have h3 : (P.play (m :: l)) = (P.move m.th m.op m.arg m.data).1.play l := rfl
    rw [h3, List.length_cons]
    omega
theorem pk_len (k : Nat) : (Pk nth ws ms k).ws.length = ws.length := play_len (Hs.new nth ws) _
/-- The counters behind i calls of the move k. -/
def cnt (k i : Nat) : List Int := if (((Pm.new nth ws).play ms).cls.take i).any (fun c => c.pt == (k : Int)) = true then (Pk nth ws ms (k + 1)).ws else (Pk nth ws ms k).ws
theorem cnt_zero (k : Nat) : cnt nth ws ms k 0 = (Pk nth ws ms k).ws := by unfold cnt; simp
theorem any_take {p : Cl → Bool} {l : List Cl} {i : Nat} {cl : Cl} (h : l[i]? = some cl) : (l.take (i + 1)).any p = ((l.take i).any p || p cl) := by
  rw [List.take_add_one, h]; simp
theorem cnt_skip (k i : Nat) (cl : Cl) (h : ((Pm.new nth ws).play ms).cls[i]? = some cl) (hp : cl.pt ≠ k) : cnt nth ws ms k (i + 1) = cnt nth ws ms k i := by
  unfold cnt
  rw [any_take h]
  have : (cl.pt == (k : Int)) = false := by simpa using hp
  rw [this, Bool.or_false]
theorem any_none {l : List Cl} {k : Int} {i : Nat} (h : ∀ (c : Nat) (cl : Cl), l[c]? = some cl → c < i → cl.pt ≠ k) : (l.take i).any (fun c => c.pt == k) = false := by
  rw [List.any_eq_false]
  intro x hx
  obtain ⟨j, hj, rfl⟩ := List.getElem_of_mem hx
  have hj' : j < i ∧ j < l.length := by simp at hj; omega
  rw [List.getElem_take]
  have := h j l[j] (List.getElem?_eq_getElem hj'.2) hj'.1
  simpa using this
include hms in
theorem cnt_hit (k i : Nat) (hk : k < ms.length) (cl : Cl) (h : ((Pm.new nth ws).play ms).cls[i]? = some cl) (hp : cl.pt = k) :
    cnt nth ws ms k i = (Pk nth ws ms k).ws ∧ cnt nth ws ms k (i + 1) = bumped (Pk nth ws ms k).ws cl ∧ cl.fin = k ∧ cl.ak = 2 ∧ cl.av = wrap64 ((Pk nth ws ms k).ws[cl.arg.toNat]?.getD 0) := by
  rcases pk_at nth ws ms hms k hk with ⟨hno, _⟩ | ⟨c0, cl0, h0, hw, hno⟩
  · exact absurd hp (hno i cl h)
  · have hi : i = c0 := Decidable.byContradiction fun e => hno i cl h e hp
    subst hi
    rw [h] at h0
    cases h0
    refine ⟨?_, ?_, rfl, rfl, rfl⟩
    · unfold cnt
      rw [any_none (fun c cl hc hlt => hno c cl hc (by omega))]
      rfl
    · unfold cnt
      rw [any_take h]
      have : ((ended cl0 k ((Pk nth ws ms k).ws[cl0.arg.toNat]?.getD 0)).pt == (k : Int)) = true := by simp [ended]
      rw [this, Bool.or_true, if_pos rfl]
      exact hw
include hms in
theorem cnt_all (k : Nat) (hk : k < ms.length) : cnt nth ws ms k ((Pm.new nth ws).play ms).cls.length = (Pk nth ws ms (k + 1)).ws := by
  unfold cnt
  rw [List.take_length]
  rcases pk_at nth ws ms hms k hk with ⟨hno, hw⟩ | ⟨c0, cl0, h0, hw, hno⟩
  · split
    · rfl
    · exact hw.symm
  · rw [if_pos]
    rw [List.any_eq_true]
    exact ⟨_, List.mem_of_getElem? h0, by simp [ended]⟩
theorem cnt_len (k i : Nat) : (cnt nth ws ms k i).length = ws.length := by
  unfold cnt
  split <;> exact pk_len nth ws ms _
theorem pk_all : Pk nth ws ms ms.length = (Pm.new nth ws).play ms := by unfold Pk; rw [List.take_length]
/-- The calls that have a point, behind i calls of the move k. -/
def dn (l : List Cl) (k i : Nat) : Nat := l.countP (fun c => decide (0 ≤ c.pt ∧ c.pt < (k : Int))) + (l.take i).countP (fun c => c.pt == (k : Int))
theorem dn_zero (l : List Cl) : dn l 0 0 = 0 := by
  unfold dn
  simp only [List.take_zero, List.countP_nil, Nat.add_zero]
  rw [List.countP_eq_zero]
  intro a _
  simp
theorem dn_next (l : List Cl) (k : Nat) : dn l k l.length = dn l (k + 1) 0 := by
  unfold dn
  rw [List.take_length]
  simp only [List.take_zero, List.countP_nil, Nat.add_zero]
  induction l with
  | nil => rfl
  | cons a l ih =>
    simp only [List.countP_cons, decide_eq_true_eq, beq_iff_eq] at ih ⊢
    have : (if 0 ≤ a.pt ∧ a.pt < (k : Int) then 1 else 0) + (if a.pt = (k : Int) then 1 else 0) = (if 0 ≤ a.pt ∧ a.pt < ((k + 1 : Nat) : Int) then 1 else 0) := by
      split <;> split <;> split <;> omega
    omega
theorem dn_step (l : List Cl) (k i : Nat) (cl : Cl) (h : l[i]? = some cl) : dn l k (i + 1) = dn l k i + if cl.pt = k then 1 else 0 := by
  unfold dn
  rw [List.take_add_one, h]
  simp [List.countP_append, List.countP_cons]
  omega
theorem dn_le (l : List Cl) (k : Nat) : dn l k 0 ≤ l.length := by
  unfold dn
  simp only [List.take_zero, List.countP_nil, Nat.add_zero]
  exact List.countP_le_length
end
end Go.Proofs.Ytiobchadjcekcaa.Ma
