/-
  fit and play of reclaimlaw03 by their contracts.
-/
import Derived.Test.YtiobchadjcekcaaMacAwake
import Derived.Laws.Rows
namespace Go.Proofs.Ytiobchadjcekcaa.Ma
open Go.RowKit Go.Shelf Mr Me
def fitT (th : Int) : Nat := if 1 ≤ th ∧ th ≤ 16 then th.toNat else 2
theorem fitT_in (th : Int) (h1 : 1 ≤ th) (h2 : th ≤ 16) : ((fitT th : Nat) : Int) = th := by unfold fitT; rw [if_pos ⟨h1, h2⟩]; omega
theorem fitT_out (th : Int) (h : ¬ (1 ≤ th ∧ th ≤ 16)) : fitT th = 2 := by unfold fitT; rw [if_neg h]
theorem fitT_pos (th : Int) : 1 ≤ fitT th ∧ fitT th ≤ 16 := by unfold fitT; split <;> omega
/-- A script's value. -/
def scV (th : Int) (a : Option Addr) (n cap : Nat) (am : Option Addr) (nm cm : Nat) : Value := .agg #[.int .i64 th, .slice a n cap, .slice am nm cm]
theorem src_take {W : World} {a : Option Addr} {n cap : Nat} {ws : List Int} (h : Src W a n cap ws) (m : Nat) : Src W a (min n m) cap (ws.take m) := by
  refine ⟨by rw [h.1, List.length_take, Nat.min_comm], ?_⟩
  rcases h.2 with ⟨rfl, rfl, rfl⟩ | ⟨ad, rfl, hc⟩
  · exact .inl ⟨rfl, by simp, rfl⟩
  · refine .inr ⟨ad, rfl, fun j u hu => hc j u ?_⟩
    simp only [wrd, List.map_take] at hu ⊢
    rw [List.getElem?_take] at hu
    split at hu
    · exact hu
    · cases hu
theorem MvAt.take {W : World} {a : Option Addr} {n : Nat} {ms : List Mv} (h : MvAt W a n ms) (m : Nat) : MvAt W a (min n m) (ms.take m) := by
  refine ⟨by rw [h.1, List.length_take, Nat.min_comm], ?_⟩
  rcases h.2 with rfl | ⟨b, off, rfl, hb, hc⟩
  · exact .inl (by simp)
  · refine .inr ⟨b, off, rfl, hb, fun j hj => ?_⟩
    rw [List.length_take] at hj
    rw [List.getElem?_take, if_pos (by omega)]
    exact hc j (by omega)
set_option maxRecDepth 100000 in
set_option maxHeartbeats 2000000 in
theorem fit_any (w : World) (th : Int) (a : Option Addr) (n cap : Nat) (am : Option Addr) (nm cm : Nat) (hn : n ≤ cap) (hnm : nm ≤ cm) (ha : 8192 < n → ∃ ad, a = some ad) (ham : 65536 < nm → ∃ ad, am = some ad) :
    Calls Try.prog 27 #[.agg #[.int .i64 th, .slice a n cap, .slice am nm cm]] w fun e w' => e = .returned (.agg #[.int .i64 ((fitT th : Nat) : Int), .slice a (min n 8192) cap, .slice am (min nm 65536) cm]) ∧ Below w.heap.size w w' := by
  have B0 : ∀ o1 o2, Below w.heap.size w ((w.alloc o1).alloc o2) := fun o1 o2 => ((Below.refl _ _).alloc (Nat.le_refl _) o1).alloc (by simp) o2
  obtain ⟨m1, hm1⟩ : ∃ m1, m1 = min n 8192 := ⟨_, rfl⟩
  obtain ⟨m2, hm2⟩ : ∃ m2, m2 = min nm 65536 := ⟨_, rfl⟩
  obtain ⟨ft, hft⟩ : ∃ ft, ft = fitT th := ⟨_, rfl⟩
  rw [← hm1, ← hm2, ← hft]
  have hT : (decide (th < 1) = false ∧ decide (16 < th) = false ∧ th = (ft : Int)) ∨ (decide (th < 1) = true ∧ ft = 2) ∨ (decide (th < 1) = false ∧ decide (16 < th) = true ∧ ft = 2) := by
    by_cases h1 : th < 1
    · exact .inr (.inl ⟨by simpa using h1, by rw [hft]; exact fitT_out th (by omega)⟩)
    · by_cases h2 : 16 < th
      · exact .inr (.inr ⟨by simpa using h1, by simpa using h2, by rw [hft]; exact fitT_out th (by omega)⟩)
      · exact .inl ⟨by simpa using h1, by simpa using h2, by rw [hft]; exact (fitT_in th (by omega) (by omega)).symm⟩
  have hW : (decide (8192 < (n : Int)) = true ∧ 8192 < n ∧ (∃ ad, a = some ad) ∧ m1 = 8192) ∨ (decide (8192 < (n : Int)) = false ∧ ¬ 8192 < n ∧ n = m1) := by
    by_cases h : 8192 < n
    · exact .inl ⟨by simp; omega, h, ha h, by omega⟩
    · exact .inr ⟨by simp; omega, h, by omega⟩
  have hM : (decide (65536 < (nm : Int)) = true ∧ 65536 < nm ∧ (∃ ad, am = some ad) ∧ m2 = 65536) ∨ (decide (65536 < (nm : Int)) = false ∧ ¬ 65536 < nm ∧ nm = m2) := by
    by_cases h : 65536 < nm
    · exact .inl ⟨by simp; omega, h, ham h, by omega⟩
    · exact .inr ⟨by simp; omega, h, by omega⟩
  clear hm1 hm2 hft ha ham
  rcases hT with ⟨t1, t2, t3⟩ | ⟨t1, t3⟩ | ⟨t1, t2, t3⟩ <;> rcases hW with ⟨f1, d1, ⟨ad, rfl⟩, d2⟩ | ⟨f1, d1, d2⟩ <;> rcases hM with ⟨f2, e1, ⟨ae, rfl⟩, e2⟩ | ⟨f2, e1, e2⟩ <;> subst t3 <;> subst d2 <;> subst e2 <;> (go_enter Try.func27, Try.ntmps27; go_wp2; refine bodyPost_ret (results_cell_row rfl _ _ (w.heap.size + 1) _ _ _ _ rfl (heap_alloc2_new _ _ _) (by rfl) rfl (by rfl)) rfl ?_; exact ⟨rfl, B0 _ _⟩)
end Go.Proofs.Ytiobchadjcekcaa.Ma
