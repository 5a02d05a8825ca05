/-
  MachineFull, without the model: bumps by both threads in turn.
-/
import Derived.Test.YtiobchadjcekcaaMacMx
namespace Go.Proofs.Ytiobchadjcekcaa.Ma
open Go.RowKit Mr Me
def gen (i : Nat) : Mv := ⟨((i % 2 : Nat) : Int), if i % 8 < 2 then 2 else 0, 0, 0⟩
def Pm.mv (P : Pm) (m : Mv) : Pm := (P.move m.th m.op m.arg m.data).1
def Fm : Nat → Pm
  | 0 => Pm.new 2 [0]
  | i + 1 => (Fm i).mv (gen i)
theorem fm_hs (i : Nat) : Hs (Fm i) := by
  induction i with
  | zero => exact Hs.new _ _
  | succ i ih => exact ih.move _ _ _ _
theorem fm_n (i : Nat) (hi : i ≤ 65536) : (Fm i).n = i := by
  induction i with
  | zero => rfl
  | succ i ih =>
    have := ih (by omega)
    show ((Fm i).move _ _ _ _).1.n = _
    rw [move_n _ _ _ _ _ (by omega), this]
theorem fm_mono (i : Nat) (hi : i < 65536) : (Fm i).cls.length ≤ (Fm (i + 1)).cls.length := by
  have e := fm_n i (by omega)
  have := move_n (Fm i) (gen i).th (gen i).op (gen i).arg (gen i).data (by omega)
  exact (Ext.ch (move_ch (fm_hs i) (gen i).th (gen i).op (gen i).arg (gen i).data) this).len
theorem fm_le (i j : Nat) (hij : i ≤ j) (hj : j ≤ 65536) : (Fm i).cls.length ≤ (Fm j).cls.length := by
  induction j with
  | zero =>
    obtain rfl : i = 0 := by omega
    exact Nat.le_refl _
  | succ j ih =>
    rcases Nat.lt_or_ge j i with h | h
    · obtain rfl : i = j + 1 := by omega
      exact Nat.le_refl _
    · exact Nat.le_trans (ih h (by omega)) (fm_mono j (by omega))
theorem gen_at (q r : Nat) : gen (24 * q + r) = gen r := by
  unfold gen
  have h1 : (24 * q + r) % 2 = r % 2 := by omega
  have h2 : (24 * q + r) % 8 = r % 8 := by omega
  rw [h1, h2]
/-- What is seen of the machine. -/
structure Sm (P : Pm) (t0 t1 : PT) (x : Int) (c : Nat) : Prop where
  pts : ∃ f0 c0 f1 c1, P.pts = [⟨t0, f0, c0⟩, ⟨t1, f1, c1⟩]
  ws : P.ws = [x]
  cls : P.cls.length = c
section
variable {P : Pm} {t0 t1 : PT} {x : Int} {c : Nat}
theorem Sm.begin0 (h : Sm P .idle t1 x c) (hn : P.n < 65536) : Sm (P.mv ⟨0, 2, 0, 0⟩) (.bump 0 0 false) t1 x (c + 1) := by
  obtain ⟨⟨f0, c0, f1, c1, hp⟩, hw, hc⟩ := h
  refine ⟨⟨true, P.cls.length, f1, c1, ?_⟩, ?_, ?_⟩ <;> simp [Pm.mv, Pm.move, Pm.begins, Pm.count, show ¬ 65536 ≤ P.n by omega, hp, hw, hc, PT.busy]
theorem Sm.begin1 (h : Sm P t0 .idle x c) (hn : P.n < 65536) : Sm (P.mv ⟨1, 2, 0, 0⟩) t0 (.bump 0 0 false) x (c + 1) := by
  obtain ⟨⟨f0, c0, f1, c1, hp⟩, hw, hc⟩ := h
  refine ⟨⟨f0, c0, true, P.cls.length, ?_⟩, ?_, ?_⟩ <;> simp [Pm.mv, Pm.move, Pm.begins, Pm.count, show ¬ 65536 ≤ P.n by omega, hp, hw, hc, PT.busy]
theorem Sm.busy0 {a : Nat} {y : Int} {b : Bool} (h : Sm P (.bump a y b) t1 x c) (hn : P.n < 65536) : Sm (P.mv ⟨0, 2, 0, 0⟩) (.bump a y b) t1 x c := by
  obtain ⟨⟨f0, c0, f1, c1, hp⟩, hw, hc⟩ := h
  refine ⟨⟨f0, c0, f1, c1, ?_⟩, ?_, ?_⟩ <;> simp [Pm.mv, Pm.move, Pm.count, show ¬ 65536 ≤ P.n by omega, hp, hw, hc, PT.busy]
theorem Sm.busy1 {a : Nat} {y : Int} {b : Bool} (h : Sm P t0 (.bump a y b) x c) (hn : P.n < 65536) : Sm (P.mv ⟨1, 2, 0, 0⟩) t0 (.bump a y b) x c := by
  obtain ⟨⟨f0, c0, f1, c1, hp⟩, hw, hc⟩ := h
  refine ⟨⟨f0, c0, f1, c1, ?_⟩, ?_, ?_⟩ <;> simp [Pm.mv, Pm.move, Pm.count, show ¬ 65536 ≤ P.n by omega, hp, hw, hc, PT.busy]
theorem Sm.idle0 (h : Sm P .idle t1 x c) (hn : P.n < 65536) : Sm (P.mv ⟨0, 0, 0, 0⟩) .idle t1 x c := by
  obtain ⟨⟨f0, c0, f1, c1, hp⟩, hw, hc⟩ := h
  refine ⟨⟨f0, c0, f1, c1, ?_⟩, ?_, ?_⟩ <;> simp [Pm.mv, Pm.move, Pm.step, Pm.count, show ¬ 65536 ≤ P.n by omega, hp, hw, hc]
theorem Sm.idle1 (h : Sm P t0 .idle x c) (hn : P.n < 65536) : Sm (P.mv ⟨1, 0, 0, 0⟩) t0 .idle x c := by
  obtain ⟨⟨f0, c0, f1, c1, hp⟩, hw, hc⟩ := h
  refine ⟨⟨f0, c0, f1, c1, ?_⟩, ?_, ?_⟩ <;> simp [Pm.mv, Pm.move, Pm.step, Pm.count, show ¬ 65536 ≤ P.n by omega, hp, hw, hc]
theorem Sm.load0 {y : Int} (h : Sm P (.bump 0 y false) t1 x c) (hn : P.n < 65536) : Sm (P.mv ⟨0, 0, 0, 0⟩) (.bump 0 x true) t1 x c := by
  obtain ⟨⟨f0, c0, f1, c1, hp⟩, hw, hc⟩ := h
  refine ⟨⟨false, c0, f1, c1, ?_⟩, ?_, ?_⟩ <;> simp [Pm.mv, Pm.move, Pm.step, Pm.count, show ¬ 65536 ≤ P.n by omega, hp, hw, hc]
theorem Sm.load1 {y : Int} (h : Sm P t0 (.bump 0 y false) x c) (hn : P.n < 65536) : Sm (P.mv ⟨1, 0, 0, 0⟩) t0 (.bump 0 x true) x c := by
  obtain ⟨⟨f0, c0, f1, c1, hp⟩, hw, hc⟩ := h
  refine ⟨⟨f0, c0, false, c1, ?_⟩, ?_, ?_⟩ <;> simp [Pm.mv, Pm.move, Pm.step, Pm.count, show ¬ 65536 ≤ P.n by omega, hp, hw, hc]
theorem Sm.hit0 (h : Sm P (.bump 0 x true) t1 x c) (hn : P.n < 65536) : Sm (P.mv ⟨0, 0, 0, 0⟩) .idle t1 (up x) c := by
  obtain ⟨⟨f0, c0, f1, c1, hp⟩, hw, hc⟩ := h
  refine ⟨⟨false, c0, f1, c1, ?_⟩, ?_, ?_⟩ <;> simp [Pm.mv, Pm.move, Pm.step, Pm.count, show ¬ 65536 ≤ P.n by omega, hp, hw, hc, setC_length]
theorem Sm.hit1 (h : Sm P t0 (.bump 0 x true) x c) (hn : P.n < 65536) : Sm (P.mv ⟨1, 0, 0, 0⟩) t0 .idle (up x) c := by
  obtain ⟨⟨f0, c0, f1, c1, hp⟩, hw, hc⟩ := h
  refine ⟨⟨f0, c0, false, c1, ?_⟩, ?_, ?_⟩ <;> simp [Pm.mv, Pm.move, Pm.step, Pm.count, show ¬ 65536 ≤ P.n by omega, hp, hw, hc, setC_length]
theorem Sm.miss0 {y : Int} (h : Sm P (.bump 0 y true) t1 x c) (hne : x ≠ y) (hn : P.n < 65536) : Sm (P.mv ⟨0, 0, 0, 0⟩) (.bump 0 y false) t1 x c := by
  obtain ⟨⟨f0, c0, f1, c1, hp⟩, hw, hc⟩ := h
  refine ⟨⟨false, c0, f1, c1, ?_⟩, ?_, ?_⟩ <;> simp [Pm.mv, Pm.move, Pm.step, Pm.count, show ¬ 65536 ≤ P.n by omega, hp, hw, hc, hne]
theorem Sm.miss1 {y : Int} (h : Sm P t0 (.bump 0 y true) x c) (hne : x ≠ y) (hn : P.n < 65536) : Sm (P.mv ⟨1, 0, 0, 0⟩) t0 (.bump 0 y false) x c := by
  obtain ⟨⟨f0, c0, f1, c1, hp⟩, hw, hc⟩ := h
  refine ⟨⟨f0, c0, false, c1, ?_⟩, ?_, ?_⟩ <;> simp [Pm.mv, Pm.move, Pm.step, Pm.count, show ¬ 65536 ≤ P.n by omega, hp, hw, hc, hne]
end
theorem up_ne (x : Int) : up x ≠ x := by
  unfold up IntKind.wrap
  simp [IntKind.signed, IntKind.bits]
  omega
theorem fm_next (q r : Nat) (m : Mv) (hm : gen r = m) : Fm (24 * q + (r + 1)) = (Fm (24 * q + r)).mv m := by
  rw [← hm, ← gen_at q r]
  rfl
theorem fm_cycle (q : Nat) (hq : 24 * (q + 1) ≤ 65536) (x : Int) (c : Nat) (h : Sm (Fm (24 * q + 0)) .idle .idle x c) : ∃ x', Sm (Fm (24 * (q + 1) + 0)) .idle .idle x' (c + 4) := by
  have hn : ∀ r, r < 24 → (Fm (24 * q + r)).n < 65536 := fun r hr => by rw [fm_n _ (by omega)]; omega
  have n1 := up_ne x
  have n2 := up_ne (up x)
  have s1 := h.begin0 (hn 0 (by omega)); rw [← fm_next q 0 ⟨0, 2, 0, 0⟩ rfl] at s1
  have s2 := s1.begin1 (hn 1 (by omega)); rw [← fm_next q 1 ⟨1, 2, 0, 0⟩ rfl] at s2
  have s3 := s2.load0 (hn 2 (by omega)); rw [← fm_next q 2 ⟨0, 0, 0, 0⟩ rfl] at s3
  have s4 := s3.load1 (hn 3 (by omega)); rw [← fm_next q 3 ⟨1, 0, 0, 0⟩ rfl] at s4
  have s5 := s4.hit0 (hn 4 (by omega)); rw [← fm_next q 4 ⟨0, 0, 0, 0⟩ rfl] at s5
  have s6 := s5.miss1 n1 (hn 5 (by omega)); rw [← fm_next q 5 ⟨1, 0, 0, 0⟩ rfl] at s6
  have s7 := s6.idle0 (hn 6 (by omega)); rw [← fm_next q 6 ⟨0, 0, 0, 0⟩ rfl] at s7
  have s8 := s7.load1 (hn 7 (by omega)); rw [← fm_next q 7 ⟨1, 0, 0, 0⟩ rfl] at s8
  have s9 := s8.begin0 (hn 8 (by omega)); rw [← fm_next q 8 ⟨0, 2, 0, 0⟩ rfl] at s9
  have s10 := s9.busy1 (hn 9 (by omega)); rw [← fm_next q 9 ⟨1, 2, 0, 0⟩ rfl] at s10
  have s11 := s10.load0 (hn 10 (by omega)); rw [← fm_next q 10 ⟨0, 0, 0, 0⟩ rfl] at s11
  have s12 := s11.hit1 (hn 11 (by omega)); rw [← fm_next q 11 ⟨1, 0, 0, 0⟩ rfl] at s12
  have s13 := s12.miss0 n2 (hn 12 (by omega)); rw [← fm_next q 12 ⟨0, 0, 0, 0⟩ rfl] at s13
  have s14 := s13.idle1 (hn 13 (by omega)); rw [← fm_next q 13 ⟨1, 0, 0, 0⟩ rfl] at s14
  have s15 := s14.load0 (hn 14 (by omega)); rw [← fm_next q 14 ⟨0, 0, 0, 0⟩ rfl] at s15
  have s16 := s15.idle1 (hn 15 (by omega)); rw [← fm_next q 15 ⟨1, 0, 0, 0⟩ rfl] at s16
  have s17 := s16.busy0 (hn 16 (by omega)); rw [← fm_next q 16 ⟨0, 2, 0, 0⟩ rfl] at s17
  have s18 := s17.begin1 (hn 17 (by omega)); rw [← fm_next q 17 ⟨1, 2, 0, 0⟩ rfl] at s18
  have s19 := s18.hit0 (hn 18 (by omega)); rw [← fm_next q 18 ⟨0, 0, 0, 0⟩ rfl] at s19
  have s20 := s19.load1 (hn 19 (by omega)); rw [← fm_next q 19 ⟨1, 0, 0, 0⟩ rfl] at s20
  have s21 := s20.idle0 (hn 20 (by omega)); rw [← fm_next q 20 ⟨0, 0, 0, 0⟩ rfl] at s21
  have s22 := s21.hit1 (hn 21 (by omega)); rw [← fm_next q 21 ⟨1, 0, 0, 0⟩ rfl] at s22
  have s23 := s22.idle0 (hn 22 (by omega)); rw [← fm_next q 22 ⟨0, 0, 0, 0⟩ rfl] at s23
  have s24 := s23.idle1 (hn 23 (by omega)); rw [← fm_next q 23 ⟨1, 0, 0, 0⟩ rfl] at s24
  exact ⟨_, s24⟩
theorem fm_cycles (q : Nat) (hq : 24 * q ≤ 65536) : ∃ x, Sm (Fm (24 * q + 0)) .idle .idle x (4 * q) := by
  induction q with
  | zero => exact ⟨0, ⟨⟨false, -1, false, -1, rfl⟩, rfl, rfl⟩⟩
  | succ q ih =>
    obtain ⟨x, h⟩ := ih (by omega)
    exact fm_cycle q hq x (4 * q) h
theorem fm_many (k : Nat) (h0 : 65516 ≤ k) (h1 : k ≤ 65536) : 10000 ≤ (Fm k).cls.length := by
  obtain ⟨x, h⟩ := fm_cycles 2729 (by omega)
  have := fm_le (24 * 2729 + 0) k (by omega) h1
  rw [h.cls] at this
  omega
end Go.Proofs.Ytiobchadjcekcaa.Ma
