/-
  SCHEDULE: Seeded, the pure side.
-/
import Derived.Test.YtfbneodldlcdjaaShSame
namespace Go.Proofs.Ytfbneodldlcdjaa.Sh
open Go.RowKit Mr Md
set_option linter.unusedVariables false
set_option linter.unusedSimpArgs false
def okW (ws : List Int) : Prop := ∀ x ∈ ws, 0 ≤ x ∧ x ≤ 65536
def sms (ws : List Int) : List Int := (List.range ws.length).map (fun i => (ws.take (i + 1)).sum)
theorem sum_bd : ∀ ws : List Int, okW ws → 0 ≤ ws.sum ∧ ws.sum ≤ 65536 * ws.length := by
  intro ws
  induction ws with
  | nil => intro _; simp
  | cons x ws ih =>
    intro h
    have h1 := h x (by simp)
    have h2 := ih (fun y hy => h y (by simp [hy]))
    rw [List.sum_cons, List.length_cons]
    omega
theorem okW.take {ws : List Int} (h : okW ws) (i : Nat) : okW (ws.take i) := fun x hx => h x (List.mem_of_mem_take hx)
theorem okW.drop {ws : List Int} (h : okW ws) (i : Nat) : okW (ws.drop i) := fun x hx => h x (List.mem_of_mem_drop hx)
theorem okW.get {ws : List Int} (h : okW ws) {i : Nat} {x : Int} (hx : ws[i]? = some x) : 0 ≤ x ∧ x ≤ 65536 := h x (List.mem_of_getElem? hx)
theorem sum_take {ws : List Int} {i : Nat} {x : Int} (hx : ws[i]? = some x) : (ws.take (i + 1)).sum = (ws.take i).sum + x := by
  rw [List.take_add_one, hx]; simp
theorem sum_le {ws : List Int} (h : okW ws) (i : Nat) : (ws.take i).sum ≤ ws.sum := by
  have h1 := sum_bd _ (h.drop i)
  have h2 : ws.sum = (ws.take i).sum + (ws.drop i).sum := by rw [← List.sum_append, List.take_append_drop]
  omega
theorem take_bd {ws : List Int} (h : okW ws) (hn : ws.length ≤ 16) (i : Nat) : 0 ≤ (ws.take i).sum ∧ (ws.take i).sum ≤ 1048576 := by
  have h1 := sum_bd _ (h.take i)
  have : (ws.take i).length ≤ 16 := by rw [List.length_take]; omega
  omega
/-- The picks' places: the least one that r is below the sum up to. -/
structure Pk (ws : List Int) (r : Int) (j : Nat) : Prop where
  lt : j < ws.length
  lo : ∀ i, i < j → (ws.take (i + 1)).sum ≤ r
  hi : r < (ws.take (j + 1)).sum
def pka : List Int → Int → Nat
  | [], _ => 0
  | x :: ws, r => if r < x then 0 else pka ws (r - x) + 1
theorem pka_pk : ∀ (ws : List Int) (r : Int), 0 ≤ r → r < ws.sum → Pk ws r (pka ws r) := by
  intro ws
  induction ws with
  | nil => intro r h0 h; simp at h; omega
  | cons x ws ih =>
    intro r h0 h
    rw [List.sum_cons] at h
    unfold pka
    by_cases hx : r < x
    · rw [if_pos hx]
      exact ⟨by simp, fun i hi => by omega, by simpa using hx⟩
    · rw [if_neg hx]
      have h1 := ih (r - x) (by omega) (by omega)
      refine ⟨by have := h1.lt; simp; omega, fun i hi => ?_, ?_⟩
      · cases i with
        | zero => simp; omega
        | succ i =>
          have := h1.lo i (by omega)
          rw [List.take_succ_cons, List.sum_cons]
          omega
      · have := h1.hi
        rw [List.take_succ_cons, List.sum_cons]
        omega
def sf : Int := 6364136223846793005
def sa : Int := 1442695040888963407
def nxt (s : Int) : Int := IntKind.u64.wrap (IntKind.u64.wrap (s * 6364136223846793005) + 1442695040888963407)
def st (s : Int) : Nat → Int
  | 0 => s
  | i + 1 => nxt (st s i)
theorem nxt_bd (s : Int) : 0 ≤ nxt s ∧ nxt s ≤ 18446744073709551615 := by
  unfold nxt; simp [IntKind.wrap, IntKind.signed, IntKind.bits]; omega
/-- What is picked, by the seed and the weights. -/
def pkf (ws : List Int) (s : Int) (i : Nat) : Nat := pka ws (st s (i + 1) / 8589934592 % ws.sum)
theorem pkf_pk {ws : List Int} (h : 0 < ws.sum) (s : Int) (i : Nat) : Pk ws (st s (i + 1) / 8589934592 % ws.sum) (pkf ws s i) :=
  pka_pk ws _ (Int.emod_nonneg _ (by omega)) (Int.emod_lt_of_pos _ h)
def sdl (ws : List Int) (s : Int) (n : Nat) : List Int := (List.range n).map (fun i : Nat => ((pkf ws s i : Nat) : Int))
theorem sdl_len (ws : List Int) (s : Int) (n : Nat) : (sdl ws s n).length = n := by simp [sdl]
theorem sdl_succ (ws : List Int) (s : Int) (n : Nat) : sdl ws s (n + 1) = sdl ws s n ++ [((pkf ws s n : Nat) : Int)] := by simp [sdl, List.range_succ]
def sdz (ws : List Int) (s : Int) (n i : Nat) : List Int := sdl ws s i ++ List.replicate (n - i) 0
theorem sdz_len (ws : List Int) (s : Int) (n i : Nat) (h : i ≤ n) : (sdz ws s n i).length = n := by simp [sdz, sdl_len]; omega
theorem sdz_set (ws : List Int) (s : Int) (n i : Nat) (h : i < n) : (sdz ws s n i).set i ((pkf ws s i : Nat) : Int) = sdz ws s n (i + 1) := by
  unfold sdz
  have e : n - i = (n - (i + 1)) + 1 := by omega
  rw [List.set_append_right _ _ (by rw [sdl_len]; omega), sdl_len, Nat.sub_self, e, List.replicate_succ, sdl_succ]
  simp
theorem sdz_end (ws : List Int) (s : Int) (n : Nat) : sdz ws s n n = sdl ws s n := by simp [sdz]
theorem sdz_get (ws : List Int) (s : Int) (n i : Nat) (h : i < n) : (sdz ws s n i)[i]? = some 0 := by
  unfold sdz
  rw [List.getElem?_append_right (by rw [sdl_len]; omega), sdl_len, Nat.sub_self, List.getElem?_replicate, if_pos (by omega)]
theorem sms_len (ws : List Int) : (sms ws).length = ws.length := by simp [sms]
theorem sms_get {ws : List Int} {i : Nat} (h : i < ws.length) : (sms ws)[i]? = some (ws.take (i + 1)).sum := by simp [sms, h]
/-- The sums so far. -/
def smz (ws : List Int) (i : Nat) : List Int := (sms ws).take i ++ List.replicate (ws.length - i) 0
theorem smz_len (ws : List Int) (i : Nat) (h : i ≤ ws.length) : (smz ws i).length = ws.length := by simp [smz, sms_len]; omega
theorem smz_set (ws : List Int) (i : Nat) (h : i < ws.length) : (smz ws i).set i (ws.take (i + 1)).sum = smz ws (i + 1) := by
  unfold smz
  have e : ws.length - i = (ws.length - (i + 1)) + 1 := by omega
  have hl : ((sms ws).take i).length = i := by rw [List.length_take, sms_len]; omega
  rw [List.set_append_right _ _ (by omega), hl, Nat.sub_self, e, List.replicate_succ, List.take_add_one (l := sms ws), sms_get h]
  simp
theorem smz_end (ws : List Int) : smz ws ws.length = sms ws := by unfold smz; rw [Nat.sub_self, ← sms_len, List.take_length]; simp
theorem smz_get (ws : List Int) (i : Nat) (h : i < ws.length) : (smz ws i)[i]? = some 0 := by
  unfold smz
  have hl : ((sms ws).take i).length = i := by rw [List.length_take, sms_len]; omega
  rw [List.getElem?_append_right (by omega), hl, Nat.sub_self, List.getElem?_replicate, if_pos (by omega)]
end Go.Proofs.Ytfbneodldlcdjaa.Sh
