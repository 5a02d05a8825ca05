import Derived.Test.YtnbibkohgppjnaaGreatJ13
import Derived.Test.YtnbibkohgppjnaaGreatJ09
import Derived.Test.YtnbibkohgppjnaaGreatJ01
import Derived.Laws.BitsAllLaws
import Derived.Laws.Shifts
import Derived.Test.YtnbibkohgppjnaaGreatJ10
import Derived.Deep.RegionLaw
set_option linter.unusedVariables false
set_option linter.unusedSimpArgs false
set_option maxRecDepth 100000
namespace Go.Proofs.YtnbibkohgppjnaaGreat.Ws
open Md Wt
def cnt1 : List Cq → Nat → List (Nat × Cq)
 | [], _ => []
 | c :: cs, i => (if obj c.op ≠ 0 then [(i, c)] else []) ++ cnt1 cs (i + 1)
def nms (cs : List Cq) : List Nat := (cnt1 cs 0).map (·.1)
def scs (cs : List Cq) : List Cq := (cnt1 cs 0).map (·.2)
def cd (sc : List Cq) (i : Nat) : Cq := sc[i]?.getD cq0
def nd (nm : List Nat) (i : Nat) : Nat := nm[i]?.getD 0
theorem cnt1_app (cs ds : List Cq) : ∀ i, cnt1 (cs ++ ds) i = cnt1 cs i ++ cnt1 ds (i + cs.length) := by
 induction cs with
 | nil => intro i; simp [cnt1]
 | cons c cs ih => intro i; simp only [List.cons_append, cnt1, ih, List.append_assoc, List.length_cons]; congr 3; omega
theorem mem_cnt1 (cs : List Cq) : ∀ (n : Nat) (x : Nat × Cq), x ∈ cnt1 cs n ↔ ∃ i, cs[i]? = some x.2 ∧ x.1 = n + i ∧ obj x.2.op ≠ 0 := by
 induction cs with
 | nil => intro n x; simp [cnt1]
 | cons c cs ih =>
  intro n x
  rw [cnt1, List.mem_append, ih]
  constructor
  ·rintro (h | ⟨i, h1, h2, h3⟩)
   ·split at h
    ·rename_i ho
     simp at h; subst h
     exact ⟨0, by simp, by simp, ho⟩
    ·simp at h
   ·exact ⟨i + 1, by simpa using h1, by omega, h3⟩
  ·rintro ⟨i, h1, h2, h3⟩
   cases i with
   | zero =>
    simp at h1
    left
    rw [h1, if_pos h3]
    simp
    exact Prod.ext (by simpa using h2) rfl
   | succ i => exact .inr ⟨i, by simpa using h1, by omega, h3⟩
theorem cnt1_pair (cs : List Cq) : ∀ n, (cnt1 cs n).Pairwise (fun a b => a.1 < b.1) := by
 induction cs with
 | nil => intro n; simp [cnt1]
 | cons c cs ih =>
  intro n
  rw [cnt1]
  refine List.pairwise_append.2 ⟨?_, ih _, ?_⟩
  ·split <;> simp
  ·intro a ha b hb
   obtain ⟨i, _, h2, _⟩ := (mem_cnt1 cs (n + 1) b).1 hb
   split at ha
   ·simp at ha; subst ha; simp; omega
   ·simp at ha
theorem scs_len (cs : List Cq) : (scs cs).length = (nms cs).length := by simp [scs, nms]
theorem at_i {cs : List Cq} {i : Nat} (h : i < (nms cs).length) : cs[nd (nms cs) i]? = some (cd (scs cs) i) ∧ obj (cd (scs cs) i).op ≠ 0 := by
 have h' : i < (cnt1 cs 0).length := by simpa [nms] using h
 have e1 : nd (nms cs) i = ((cnt1 cs 0)[i]).1 := by simp [nd, nms, h']
 have e2 : cd (scs cs) i = ((cnt1 cs 0)[i]).2 := by simp [cd, scs, h']
 obtain ⟨k, h1, h2, h3⟩ := (mem_cnt1 cs 0 _).1 (List.getElem_mem h')
 rw [e1, e2]
 refine ⟨?_, h3⟩
 rw [h2, Nat.zero_add]
 exact h1
theorem nd_inj {cs : List Cq} {i j : Nat} (hi : i < (nms cs).length) (hj : j < (nms cs).length) (h : nd (nms cs) i = nd (nms cs) j) : i = j := by
 have hi' : i < (cnt1 cs 0).length := by simpa [nms] using hi
 have hj' : j < (cnt1 cs 0).length := by simpa [nms] using hj
 have e1 : nd (nms cs) i = ((cnt1 cs 0)[i]).1 := by simp [nd, nms, hi']
 have e2 : nd (nms cs) j = ((cnt1 cs 0)[j]).1 := by simp [nd, nms, hj']
 have hp := List.pairwise_iff_getElem.1 (cnt1_pair cs 0)
 rcases Nat.lt_trichotomy i j with h1 | h1 | h1
 ·have := hp i j hi' hj' h1; omega
 ·exact h1
 ·have := hp j i hj' hi' h1; omega
theorem of_num {cs : List Cq} {k : Nat} {c : Cq} (h : cs[k]? = some c) (ho : obj c.op ≠ 0) : ∃ i, i < (nms cs).length ∧ nd (nms cs) i = k ∧ cd (scs cs) i = c := by
 have hm : (k, c) ∈ cnt1 cs 0 := (mem_cnt1 cs 0 (k, c)).2 ⟨k, h, by simp, ho⟩
 obtain ⟨i, hi, e⟩ := List.getElem_of_mem hm
 refine ⟨i, by simpa [nms] using hi, ?_, ?_⟩
 ·simp [nd, nms, hi, e]
 ·simp [cd, scs, hi, e]
def whlB (sc : List Cq) (P : Nat) : Bool := (List.range sc.length).all fun i => (cd sc i).fin == -1 || P.testBit i
def ahmB (sc : List Cq) (P i : Nat) : Bool := (List.range sc.length).all fun k => !(ahB (cd sc k) (cd sc i)) || P.testBit k
def spc (sc : List Cq) : Sp Ct where
 n := sc.length
 ok P x i := !P.testBit i && ahmB sc P i && (alw x (cd sc i)).2
 nx x i := (alw x (cd sc i)).1
 whl P := whlB sc P
 new P x i h := by simp at h; exact h.1.1
def msk (p : List Nat) : Nat := p.foldl (fun P i => P ||| 2 ^ i) 0
theorem msk_snoc (p : List Nat) (i : Nat) : msk (p ++ [i]) = msk p ||| 2 ^ i := by simp [msk]
theorem msk_test (p : List Nat) : ∀ j, (msk p).testBit j = decide (j ∈ p) := by
 intro j
 have H : ∀ (l : List Nat) (P : Nat), (l.foldl (fun P i => P ||| 2 ^ i) P).testBit j = (P.testBit j || decide (j ∈ l)) := by
  intro l
  induction l with
  | nil => intro P; simp
  | cons i l ih =>
   intro P
   rw [List.foldl_cons, ih, test_or]
   by_cases e : i = j
   ·subst e; simp
   ·have : ¬ j = i := fun h => e h.symm
    simp [e, this]
 rw [msk, H]; simp
structure Exp (sc : List Cq) (l : List Nat) : Prop where
 nod : l.Nodup
 lt : ∀ i ∈ l, i < sc.length
 full : ∀ i, i < sc.length → (cd sc i).fin ≠ -1 → i ∈ l
 tim : l.Pairwise (fun i j => ¬ AhP (cd sc j) (cd sc i))
 ans : okTo ct0 (l.map (cd sc)) l.length
theorem okTo_snoc {x : Ct} {l : List Cq} {c : Cq} : okTo x (l ++ [c]) (l.length + 1) ↔ okTo x l l.length ∧ (alw (lefts x l l.length) c).2 = true := by
 have e : ∀ j, j ≤ l.length → lefts x (l ++ [c]) j = lefts x l j := fun j hj => by
  unfold lefts
  rw [List.take_append_of_le_length hj]
 constructor
 ·intro h
  refine ⟨fun j hj d hd => ?_, ?_⟩
  ·have := h j (by omega) d (by rw [List.getElem?_append_left hj]; exact hd)
   rwa [e j (by omega)] at this
  ·have := h l.length (by omega) c (by simp)
   rwa [e _ (Nat.le_refl _)] at this
 ·rintro ⟨h1, h2⟩ j hj d hd
  by_cases ej : j < l.length
  ·rw [e j (by omega)]
   rw [List.getElem?_append_left ej] at hd
   exact h1 j ej d hd
  ·have : j = l.length := by omega
   subst this
   simp at hd
   subst hd
   rw [e _ (Nat.le_refl _)]
   exact h2
theorem lefts_snoc (x : Ct) (l : List Cq) (c : Cq) : lefts x (l ++ [c]) (l.length + 1) = (alw (lefts x l l.length) c).1 := by
 rw [lefts_succ x (l ++ [c]) l.length c (by simp)]
 unfold lefts
 rw [List.take_append_of_le_length (Nat.le_refl _)]
theorem go_exp {sc : List Cq} (hfit : ∀ c ∈ sc, Fit c) : ∀ (l p : List Nat), p.Nodup → (∀ i ∈ p, i < sc.length) → p.Pairwise (fun i j => ¬ AhP (cd sc j) (cd sc i)) → (∀ i ∈ p, ∀ k, k < sc.length → AhP (cd sc k) (cd sc i) → k ∈ p) → okTo ct0 (p.map (cd sc)) p.length →
  ((spc sc).Go (msk p) (lefts ct0 (p.map (cd sc)) p.length) l ↔ Exp sc (p ++ l)) := by
 have hirr : ∀ i, i < sc.length → ¬ AhP (cd sc i) (cd sc i) := by
  intro i hi h
  have hm : cd sc i ∈ sc := by unfold cd; rw [List.getElem?_eq_getElem hi]; exact List.getElem_mem hi
  obtain ⟨_, _, ⟨_, h2, _⟩, _⟩ := hfit _ hm
  obtain ⟨h3, h4⟩ := h
  rcases h2 with h2 | h2
  ·exact h3 h2
  ·omega
 intro l
 induction l with
 | nil =>
  intro p h1 h2 h3 h4 h5
  rw [List.append_nil]
  show whlB sc (msk p) = true ↔ _
  unfold whlB
  rw [List.all_eq_true]
  constructor
  ·intro h
   refine ⟨h1, h2, fun i hi hf => ?_, h3, h5⟩
   have := h i (List.mem_range.2 hi)
   rw [msk_test] at this
   simpa [hf] using this
  ·intro h i hi
   rw [msk_test]
   by_cases hf : (cd sc i).fin = -1
   ·simp [hf]
   ·have := h.full i (List.mem_range.1 hi) hf
    simp [this]
 | cons i l ih =>
  intro p h1 h2 h3 h4 h5
  have hx : (alw (lefts ct0 (p.map (cd sc)) p.length) (cd sc i)).1 = lefts ct0 ((p ++ [i]).map (cd sc)) (p ++ [i]).length := by
   rw [List.map_append, List.map_cons, List.map_nil, List.length_append, List.length_cons, List.length_nil]
   have := lefts_snoc ct0 (p.map (cd sc)) (cd sc i)
   rw [List.length_map] at this
   exact this.symm
  constructor
  ·rintro ⟨hi, hok, hg⟩
   have hok' : (!(msk p).testBit i && ahmB sc (msk p) i && (alw (lefts ct0 (p.map (cd sc)) p.length) (cd sc i)).2) = true := hok
   simp only [Bool.and_eq_true, Bool.not_eq_true'] at hok'
   obtain ⟨⟨q1, q2⟩, q3⟩ := hok'
   rw [msk_test] at q1
   have hni : i ∉ p := by simpa using q1
   have hah : ∀ k, k < sc.length → AhP (cd sc k) (cd sc i) → k ∈ p := by
    intro k hk ha
    have := List.all_eq_true.1 q2 k (List.mem_range.2 hk)
    rw [msk_test] at this
    have hb : ahB (cd sc k) (cd sc i) = true := by obtain ⟨a1, a2⟩ := ha; simp [ahB, a1, a2]
    simpa [hb] using this
   have hg' : (spc sc).Go (msk (p ++ [i])) (lefts ct0 ((p ++ [i]).map (cd sc)) (p ++ [i]).length) l := by
    rw [msk_snoc, ← hx]; exact hg
   have := (ih (p ++ [i]) ?_ ?_ ?_ ?_ ?_).1 hg'
   ·rw [List.append_assoc] at this; exact this
   ·exact List.nodup_append.2 ⟨h1, by simp, fun a ha b hb => by simp at hb; subst hb; exact fun e => hni (e ▸ ha)⟩
   ·intro j hj
    rcases List.mem_append.1 hj with hj | hj
    ·exact h2 j hj
    ·simp at hj; subst hj; exact hi
   ·refine List.pairwise_append.2 ⟨h3, by simp, fun a ha b hb => ?_⟩
    simp at hb; subst hb
    exact fun e => hni (h4 a ha b hi e)
   ·intro a ha k hk hA
    rcases List.mem_append.1 ha with ha | ha
    ·exact List.mem_append.2 (.inl (h4 a ha k hk hA))
    ·simp at ha; subst ha
     exact List.mem_append.2 (.inl (hah k hk hA))
   ·rw [List.map_append, List.map_cons, List.map_nil, List.length_append, List.length_cons, List.length_nil]
    have := (okTo_snoc (x := ct0) (l := p.map (cd sc)) (c := cd sc i)).2 ⟨by rw [List.length_map]; exact h5, by rw [List.length_map]; exact q3⟩
    rw [List.length_map] at this
    exact this
  ·intro hE
   have hi : i < sc.length := hE.lt i (by simp)
   have hnd := List.nodup_append.1 hE.nod
   have hni : i ∉ p := fun e => hnd.2.2 i e i (by simp) rfl
   have htm := List.pairwise_append.1 hE.tim
   have hah : ∀ k, k < sc.length → AhP (cd sc k) (cd sc i) → k ∈ p := by
    intro k hk hA
    have hin := hE.full k hk hA.1
    rcases List.mem_append.1 hin with h | h
    ·exact h
    ·rcases List.mem_cons.1 h with h | h
     ·subst h; exact absurd hA (hirr k hk)
     ·exact absurd hA ((List.pairwise_cons.1 htm.2.1).1 k h)
   have hko : okTo ct0 ((p ++ [i]).map (cd sc)) (p ++ [i]).length := by
    intro j hj c hc
    have h6 := hE.ans j (by simp at hj ⊢; omega) c ?_
    ·have e : lefts ct0 ((p ++ i :: l).map (cd sc)) j = lefts ct0 ((p ++ [i]).map (cd sc)) j := by
      unfold lefts
      rw [show p ++ i :: l = (p ++ [i]) ++ l from by simp, List.map_append, List.take_append_of_le_length (by simp at hj ⊢; omega)]
     rwa [e] at h6
    ·rw [show p ++ i :: l = (p ++ [i]) ++ l from by simp, List.map_append, List.getElem?_append_left (by simpa using hj)]
     exact hc
   have hko' := hko
   rw [List.map_append, List.map_cons, List.map_nil, List.length_append, List.length_cons, List.length_nil] at hko'
   have hk2 := (okTo_snoc (x := ct0) (l := p.map (cd sc)) (c := cd sc i)).1 (by rw [List.length_map]; exact hko')
   rw [List.length_map] at hk2
   have hp1 : (p ++ [i]).Nodup := List.nodup_append.2 ⟨h1, by simp, fun a ha b hb => by simp at hb; subst hb; exact fun e => hni (e ▸ ha)⟩
   refine ⟨hi, ?_, ?_⟩
   ·show (!(msk p).testBit i && ahmB sc (msk p) i && (alw (lefts ct0 (p.map (cd sc)) p.length) (cd sc i)).2) = true
    simp only [Bool.and_eq_true, Bool.not_eq_true']
    refine ⟨⟨by rw [msk_test]; simpa using hni, ?_⟩, hk2.2⟩
    unfold ahmB
    rw [List.all_eq_true]
    intro k hk
    rw [msk_test]
    cases hb : ahB (cd sc k) (cd sc i) with
    | false => simp
    | true =>
     have hA : AhP (cd sc k) (cd sc i) := by simp [ahB] at hb; exact ⟨hb.1, hb.2⟩
     have := hah k (List.mem_range.1 hk) hA
     simp [this]
   ·have := (ih (p ++ [i]) hp1 ?_ ?_ ?_ hko).2 (by rw [List.append_assoc]; exact hE)
    ·rw [msk_snoc, ← hx] at this; exact this
    ·intro j hj
     exact hE.lt j (by rcases List.mem_append.1 hj with h | h; exact List.mem_append.2 (.inl h); simp at h; subst h; simp)
    ·refine List.pairwise_append.2 ⟨h3, by simp, fun a ha b hb => ?_⟩
     simp at hb; subst hb
     exact fun e => hni (h4 a ha b hi e)
    ·intro a ha k hk hA
     rcases List.mem_append.1 ha with ha | ha
     ·exact List.mem_append.2 (.inl (h4 a ha k hk hA))
     ·simp at ha; subst ha
      exact List.mem_append.2 (.inl (hah k hk hA))
theorem go_exp0 {sc : List Cq} (hfit : ∀ c ∈ sc, Fit c) (l : List Nat) : (spc sc).Go 0 ct0 l ↔ Exp sc l := by
 have := go_exp hfit l [] (by simp) (by simp) (by simp) (by simp) (fun j hj => by simp at hj)
 simpa [msk, lefts] using this
end Go.Proofs.YtnbibkohgppjnaaGreat.Ws
namespace Go.Proofs.YtnbibkohgppjnaaGreat.Ws
open Go.RowKit Mr
def gv (P : Nat) : Value := .int .u64 (P : Int)
theorem and_pow (P i : Nat) : (P &&& 2 ^ i = 0) ↔ P.testBit i = false := by
 constructor
 ·intro h
  have := congrArg (fun n => n.testBit i) h
  simpa [Nat.testBit_and, Nat.testBit_two_pow] using this
 ·intro h
  apply Nat.eq_of_testBit_eq
  intro j
  rw [Nat.testBit_and, Nat.testBit_two_pow, Nat.zero_testBit]
  by_cases e : i = j
  ·subst e; simp [h]
  ·simp [e]
theorem pow_i (i : Nat) (h : i < 8) : ∃ q : Nat, (2 : Nat) ^ i = q ∧ q < 256 ∧ IntKind.u64.wrap ((2 : Int) ^ i) = (q : Int) := by
 match i, h with
 | 0, _ => exact ⟨_, rfl, by decide, by decide⟩
 | 1, _ => exact ⟨_, rfl, by decide, by decide⟩
 | 2, _ => exact ⟨_, rfl, by decide, by decide⟩
 | 3, _ => exact ⟨_, rfl, by decide, by decide⟩
 | 4, _ => exact ⟨_, rfl, by decide, by decide⟩
 | 5, _ => exact ⟨_, rfl, by decide, by decide⟩
 | 6, _ => exact ⟨_, rfl, by decide, by decide⟩
 | 7, _ => exact ⟨_, rfl, by decide, by decide⟩
theorem within_nat (P Q : Nat) (hP : P < 256) (hQ : Q < 256) : (P &&& (18446744073709551615 - Q) = 0) ↔ ∀ i, i < 8 → P.testBit i = true → Q.testBit i = true := by
 ·have hx : ∀ i, i < 64 → (18446744073709551615 - Q).testBit i = !Q.testBit i := by
   intro i hi
   have := Nat.testBit_two_pow_sub_succ (n := 64) (x := Q) (by omega) i
   rw [show 2 ^ 64 - (Q + 1) = 18446744073709551615 - Q from by omega] at this
   simpa [hi] using this
  constructor
  ·intro h i hi h1
   have := congrArg (fun n => n.testBit i) h
   simp only [Nat.testBit_and, h1, hx i (by omega), Bool.true_and, Nat.zero_testBit] at this
   simpa using this
  ·intro h
   apply Nat.eq_of_testBit_eq
   intro j
   rw [Nat.testBit_and, Nat.zero_testBit]
   by_cases hj : j < 8
   ·rw [hx j (by omega)]
    cases h1 : P.testBit j with
    | false => rfl
    | true => simp [h j hj h1]
   ·rw [Nat.testBit_lt_two_pow (Nat.lt_of_lt_of_le hP (show 256 ≤ 2 ^ j from Nat.pow_le_pow_right (n := 2) (by omega) (show 8 ≤ j by omega))), Bool.false_and]
def inB8 (P Q : Nat) : Bool := (List.range 8).all fun i => !P.testBit i || Q.testBit i
theorem ret_bool {a b : Bool} (h : a = b) : Ending.returned (Value.bool a) = Ending.returned (Value.bool b) := by rw [h]
set_option maxHeartbeats 2000000 in
theorem has_any (P i : Nat) (hP : P < 256) (hi : i < 8) (w : World) : Calls Tryz.prog 50 #[gv P, .int .i64 (i : Int)] w fun e w' => e = .returned (.bool (P.testBit i)) ∧ w' = w := by
 obtain ⟨q, hq, hq2, hq3⟩ := pow_i i hi
 have h0 : (0 : Int) ≤ (i : Int) := by omega
 unfold gv
 go_enter Tryz.func50, Tryz.ntmps50
 go_wp2
 go_ret
 refine ⟨ret_bool ?_, rfl⟩
 rw [u64_and _ _ (by omega) (by omega) (by omega) (by omega), Int.toNat_natCast, Int.toNat_natCast, ← hq]
 have := and_pow P i
 cases h : P.testBit i with
 | false => rw [this.2 h]; rfl
 | true =>
  have h1 : P &&& 2 ^ i ≠ 0 := fun e => by rw [this.1 e] at h; cases h
  simpa using h1
set_option maxHeartbeats 2000000 in
theorem with_any (P i : Nat) (hP : P < 256) (hi : i < 8) (w : World) : Calls Tryz.prog 28 #[gv P, .int .i64 (i : Int)] w fun e w' => e = .returned (gv (P ||| 2 ^ i)) ∧ w' = w := by
 obtain ⟨q, hq, hq2, hq3⟩ := pow_i i hi
 have h0 : (0 : Int) ≤ (i : Int) := by omega
 unfold gv
 go_enter Tryz.func28, Tryz.ntmps28
 go_wp2
 go_ret
 refine ⟨?_, rfl⟩
 show Ending.returned (Value.int IntKind.u64 (bits BinOp.or IntKind.u64 (P : Int) (q : Int))) = _
 rw [u64_or _ _ (by omega) (by omega) (by omega) (by omega), Int.toNat_natCast, Int.toNat_natCast, ← hq]
set_option maxHeartbeats 2000000 in
theorem within_any (P Q : Nat) (hP : P < 256) (hQ : Q < 256) (w : World) : Calls Tryz.prog 47 #[gv P, gv Q] w fun e w' => e = .returned (.bool (inB8 P Q)) ∧ w' = w := by
 unfold gv
 go_enter Tryz.func47, Tryz.ntmps47
 go_wp2
 go_ret
 refine ⟨ret_bool ?_, rfl⟩
 rw [u64_andNot _ _ (by omega) (by omega) (by omega) (by omega), Int.toNat_natCast, Int.toNat_natCast]
 have := within_nat P Q hP hQ
 cases h : inB8 P Q with
 | true =>
  have h2 := List.all_eq_true.1 h
  rw [this.2 (fun i hi h1 => by have := h2 i (List.mem_range.2 hi); simpa [h1] using this)]
  rfl
 | false =>
  have h1 : P &&& (18446744073709551615 - Q) ≠ 0 := by
   intro e
   have h3 := this.1 e
   have : inB8 P Q = true := List.all_eq_true.2 (fun i hi => by
    cases h4 : P.testBit i with
    | false => rfl
    | true => simp [h3 i (List.mem_range.1 hi) h4])
   rw [this] at h; cases h
  simpa using h1
end Go.Proofs.YtnbibkohgppjnaaGreat.Ws
namespace Go.Proofs.YtnbibkohgppjnaaGreat.Md
open Go.RowKit Mr
theorem mp_int : (Tryz.prog.info? 3).map (fun i => (i.zero, i.size, i.bytes)) = some (some (.int .i64 0), 1, 8) := by kernel_rfl
theorem mp_pair : (Tryz.prog.info? 92).map (fun i => (i.zero, i.size, i.bytes)) = some (some (.agg #[.int .i64 0, .int .i64 0]), 2, 16) := by kernel_rfl
theorem ints_len (l : List Int) : (ints l).length = l.length * 1 := by simp [ints]
theorem ints_one (l : List Int) : ∀ u ∈ ints l, u.oneCell' = true := by
 intro u hu
 obtain ⟨x, _, rfl⟩ := List.mem_map.1 hu
 rfl
theorem prs_one (l : List (Int × Int)) : ∀ u ∈ prs l, u.oneCell' = true := by
 intro u hu
 simp only [prs, List.mem_flatMap, pr] at hu
 obtain ⟨x, _, hu⟩ := hu
 simp at hu
 rcases hu with rfl | rfl <;> rfl
theorem Sl.news {W : World} {T : Nat → Prop} {size n : Nat} {a : Option Addr} {cap : Nat} {xs : List Value} (h : Sl W T size (.slice a n cap) n xs) (o : Obj) : ∀ ad, a = some ad → ∀ j u, xs[j]? = some u → (W.alloc o).cell? (ad.add j) = some u := by
 rintro ad rfl j u hu
 obtain ⟨hl, a, cap', hv, hc, h2⟩ := h
 rcases h2 with rfl | ⟨b, o', rfl, hT, hlt, hr⟩
 ·have : xs = [] := List.eq_nil_of_length_eq_zero (by simpa using hl)
  subst this
  simp at hu
 ·injection hv with e1 e2 e3
  cases e1
  rw [add1, World.cell?_alloc_past _ _ _ hlt]
  exact hr j u hu
theorem Sl.nothing {W : World} {T : Nat → Prop} {size n cap : Nat} {xs : List Value} (h : Sl W T size (.slice none n cap) n xs) : n = 0 := by
 obtain ⟨hl, a, cap', hv, hc, h2⟩ := h
 rcases h2 with rfl | ⟨b, o', rfl, _⟩
 ·rfl
 ·cases hv
set_option maxRecDepth 100000 in
set_option maxHeartbeats 1000000 in
theorem cloneI_any {w : World} {S : Nat → Prop} {u : Value} {l : List Int} (hu : Sl w S 1 u l.length (ints l)) (hsm : l.length * 8 ≤ 225100000000000) :
  Calls Tryz.prog 113 #[u] w fun e w' => ∃ v', e = .returned v' ∧ Own w' (fun k => w.heap.size ≤ k) 3 1 v' l.length (ints l) ∧ Below w.heap.size w w' := by
 obtain ⟨i0, hi, hz0, hz1, hz2⟩ := info_parts mp_int
 obtain ⟨a, c, rfl, hc⟩ := hu.form
 have hN := hu.news
 have hl := ints_len l
 have h1 := ints_one l
 cases a with
 | none =>
  have h0 : l = [] := List.eq_nil_of_length_eq_zero hu.nothing
  subst h0
  clear hu hN hl h1
  simp only [List.length_nil] at *
  have en := fun (w : World) => Lib.run_eql_slice_nil (P := Tryz.prog) w 24 3 none 0 c 0 0 Tryz.underlying24
  go_enter Tryz.func113, Tryz.ntmps113
  go_wp2
  go_ret
  exact ⟨_, rfl, Own.zero _ _ _ _ _, Below.refl _ _⟩
 | some ad =>
  have en := fun (w : World) => Lib.run_eql_slice_nil (P := Tryz.prog) w 24 3 (some ad) l.length c 0 0 Tryz.underlying24
  clear hu
  generalize ints l = xs at *
  generalize l.length = n at *
  replace hN := Mr.hid hN
  replace hl := Mr.hid hl
  replace h1 := Mr.hid h1
  go_enter Tryz.func113, Tryz.ntmps113
  go_wp2_with (at_builtin; refine wpList_append_mine _ rfl (.tmp 5) (.tmp 6) 24 rfl (fun k => w.heap.size ≤ k) 3 i0 _ 1 8 Tryz.underlying24 hi hz0 hz1 hz2 rfl (.slice (some ⟨w.heap.size, 0, none⟩) 0 0) 0 [] rfl (Own.zero _ _ _ _ _) (some ad) n c xs rfl hl.out (fun e => by cases e) (hN.out _) h1.out (by unfold maxLen; omega) (by omega) ?_; intro b' cap' w1 hown hfr)
  go_ret
  rw [Nat.zero_add, List.nil_append] at hown
  exact ⟨_, rfl, hown.mono (fun k h => by rcases h with h | h; exact h; simp at h; omega), ((Below.refl _ _).alloc (Nat.le_refl _) _).trans (hfr.below (fun _ h => h) (by simp))⟩
set_option maxRecDepth 100000 in
set_option maxHeartbeats 1000000 in
theorem cloneP_any {w : World} {S : Nat → Prop} {u : Value} {l : List (Int × Int)} (hu : Sl w S 2 u l.length (prs l)) (hsm : l.length * 16 ≤ 225100000000000) :
  Calls Tryz.prog 115 #[u] w fun e w' => ∃ v', e = .returned v' ∧ Own w' (fun k => w.heap.size ≤ k) 92 2 v' l.length (prs l) ∧ Below w.heap.size w w' := by
 obtain ⟨i0, hi, hz0, hz1, hz2⟩ := info_parts mp_pair
 obtain ⟨a, c, rfl, hc⟩ := hu.form
 have hN := hu.news
 have hl := prs_length l
 have h1 := prs_one l
 cases a with
 | none =>
  have h0 : l = [] := List.eq_nil_of_length_eq_zero hu.nothing
  subst h0
  clear hu hN hl h1
  simp only [List.length_nil] at *
  have en := fun (w : World) => Lib.run_eql_slice_nil (P := Tryz.prog) w 53 92 none 0 c 0 0 Tryz.underlying53
  go_enter Tryz.func115, Tryz.ntmps115
  go_wp2
  go_ret
  exact ⟨_, rfl, Own.zero _ _ _ _ _, Below.refl _ _⟩
 | some ad =>
  have en := fun (w : World) => Lib.run_eql_slice_nil (P := Tryz.prog) w 53 92 (some ad) l.length c 0 0 Tryz.underlying53
  clear hu
  generalize prs l = xs at *
  generalize l.length = n at *
  replace hN := Mr.hid hN
  replace hl := Mr.hid hl
  replace h1 := Mr.hid h1
  go_enter Tryz.func115, Tryz.ntmps115
  go_wp2_with (at_builtin; refine wpList_append_mine _ rfl (.tmp 5) (.tmp 6) 53 rfl (fun k => w.heap.size ≤ k) 92 i0 _ 2 16 Tryz.underlying53 hi hz0 hz1 hz2 rfl (.slice (some ⟨w.heap.size, 0, none⟩) 0 0) 0 [] rfl (Own.zero _ _ _ _ _) (some ad) n c xs rfl hl.out (fun e => by cases e) (hN.out _) h1.out (by unfold maxLen; omega) (by omega) ?_; intro b' cap' w1 hown hfr)
  go_ret
  rw [Nat.zero_add, List.nil_append] at hown
  exact ⟨_, rfl, hown.mono (fun k h => by rcases h with h | h; exact h; simp at h; omega), ((Below.refl _ _).alloc (Nat.le_refl _) _).trans (hfr.below (fun _ h => h) (by simp))⟩
theorem Own.set {W : World} {S : Nat → Prop} {e : TypeId} {n g o cap : Nat} {xs : List Value} (h : Own W S e 1 (.slice (some ⟨g, o, none⟩) n cap) n xs) (i : Nat) (hi : i < n) (u : Value) : Own (W.setCell ⟨g, o + i, none⟩ u) S e 1 (.slice (some ⟨g, o, none⟩) n cap) n (xs.set i u) := by
 obtain ⟨g', o', cap', cur, hv, hc, hm, hS, hg, hs, hx⟩ := h.there (by omega)
 cases hv
 refine ⟨by simpa using h.1, _, cap, rfl, hc, hm, .inr ⟨g, o, _, rfl, hS, setBlk hg _ u, by simpa using hs, ?_⟩⟩
 rw [Array.toList_setIfInBounds, List.drop_set, if_neg (by omega), Nat.add_sub_cancel_left, List.take_set, hx]
theorem Own.drew {W : World} {S : Nat → Prop} {e : TypeId} {size n : Nat} {v : Value} {xs : List Value} (h : Own W S e size v n xs) : Own W.drew S e size v n xs := h.kept (fun _ _ _ => rfl) (fun _ h => h)
theorem ints_set (l : List Int) (i : Nat) (x : Int) : (ints l).set i (.int .i64 x) = ints (l.set i x) := by simp [ints, List.map_set]
def Rev (l d : List Int) (i : Nat) : Prop := d.length = l.length ∧ ∀ t, t < l.length → d[t]? = if t < i ∨ l.length < t + i + 1 then l[l.length - 1 - t]? else l[t]?
theorem rev_zero (l : List Int) : Rev l l 0 := ⟨rfl, fun t ht => by rw [if_neg (by omega)]⟩
theorem rev_step {l d : List Int} {i : Nat} (h : Rev l d i) (hi : 2 * i + 1 < l.length) : Rev l ((d.set i (d[l.length - 1 - i]?.getD 0)).set (l.length - 1 - i) (d[i]?.getD 0)) (i + 1) := by
 obtain ⟨h1, h2⟩ := h
 refine ⟨by simpa using h1, fun t ht => ?_⟩
 have e1 : d[i]? = l[i]? := by rw [h2 i (by omega), if_neg (by omega)]
 have e2 : d[l.length - 1 - i]? = l[l.length - 1 - i]? := by rw [h2 _ (by omega), if_neg (by omega)]
 have g1 : l[i]? = some (l[i]?.getD 0) := by rw [List.getElem?_eq_getElem (by omega)]; rfl
 have g2 : l[l.length - 1 - i]? = some (l[l.length - 1 - i]?.getD 0) := by rw [List.getElem?_eq_getElem (by omega)]; rfl
 rw [e1, e2]
 by_cases ht1 : t = l.length - 1 - i
 ·subst ht1
  rw [List.getElem?_set_self (by simp; omega), if_pos (by omega), show l.length - 1 - (l.length - 1 - i) = i from by omega]
  exact g1.symm
 ·rw [List.getElem?_set_ne (by omega)]
  by_cases ht2 : t = i
  ·subst ht2
   rw [List.getElem?_set_self (by omega), if_pos (by omega)]
   exact g2.symm
  ·rw [List.getElem?_set_ne (by omega), h2 t ht]
   by_cases ht3 : t < i ∨ l.length < t + i + 1
   ·rw [if_pos ht3, if_pos (by omega)]
   ·rw [if_neg ht3, if_neg (by omega)]
theorem rev_end {l d : List Int} {i : Nat} (h : Rev l d i) (hi : l.length ≤ 2 * i + 1) : d = l.reverse := by
 apply List.ext_getElem?
 intro t
 by_cases ht : t < l.length
 ·rw [h.2 t ht, List.getElem?_reverse ht]
  by_cases c : t < i ∨ l.length < t + i + 1
  ·rw [if_pos c]
  ·rw [if_neg c, show l.length - 1 - t = t from by omega]
 ·rw [List.getElem?_eq_none (by have := h.1; omega), List.getElem?_eq_none (by simp; omega)]
set_option maxRecDepth 100000 in
set_option maxHeartbeats 4000000 in
theorem reverse_any {w : World} {S : Nat → Prop} {v : Value} {l : List Int} (hv : Own w S 3 1 v l.length (ints l)) :
  Calls Tryz.prog 119 #[v] w fun e w' => e = .returned (.tuple #[]) ∧ Own w' S 3 1 v l.length (ints l.reverse) ∧ Fr w w' S := by
 obtain ⟨a, c, rfl, hc, hm⟩ := hv.form
 obtain ⟨n, hn⟩ : ∃ n, n = l.length := ⟨_, rfl⟩
 rw [← hn] at hv hc ⊢
 unfold maxLen at hm
 have hR := rev_zero l
 replace hn := Mr.hid hn
 replace hv := Mr.hid hv
 replace hR := Mr.hid hR
 go_enter Tryz.func119, Tryz.ntmps119
 go_wp2
 go_loopg [2, 3] n (fun k s2 s3 wr => ∃ (i : Nat) (d : List Int), s2 = .int .i64 (i : Int) ∧ s3 = .int .i64 ((n : Int) - 1 - (i : Int)) ∧ i + k = n ∧ Own wr S 3 1 (.slice a n c) n (ints d) ∧ Fr w wr S ∧ Rev l d i)
 case atStart => exact ⟨0, l, rfl, by simp, by omega, hv.out, Fr.refl _ _, hR.out⟩
 case round =>
  obtain ⟨i, d, rfl, rfl, hi, hO, hF, hR'⟩ := hrel
  clear hR hv
  by_cases hlt : 2 * i + 1 < n
  ·obtain ⟨g, o, cap, cur, hv, hc', hm', hS, hg, hs, hx⟩ := hO.there (by omega)
   cases hv
   have hd : d.length = n := by rw [hR'.1]; exact hn.out.symm
   have c1 := own_cells hg hx i _ (ints_get d i (by omega))
   have c2 := own_cells hg hx (n - 1 - i) _ (ints_get d (n - 1 - i) (by omega))
   have z1 : wr.frozen? ⟨g, o + i, none⟩ = false := by simp [World.frozen?, hg]
   have z2 : wr.frozen? ⟨g, o + (n - 1 - i), none⟩ = false := by simp [World.frozen?, hg]
   have st := rev_step hR' (by have := hn.out; omega)
   rw [← hn.out] at st
   obtain ⟨j, hj⟩ : ∃ j, j = n - 1 - i := ⟨_, rfl⟩
   rw [← hj] at c2 z2 st
   have ej : (n : Int) - 1 - (i : Int) = (j : Int) := by omega
   rw [ej]
   have p1 : (0 : Int) ≤ (i : Int) := by omega
   have p2 : (i : Int) < (n : Int) := by omega
   have p3 : (0 : Int) ≤ (j : Int) := by omega
   have p4 : (j : Int) < (n : Int) := by omega
   have p5 : (i : Int) < (j : Int) := by omega
   have p6 : i ≠ j := by omega
   have hj2 : j < n := by omega
   have hi2 : i < n := by omega
   have ej2 : (n : Int) - 1 - ((i + 1 : Nat) : Int) = (j : Int) - 1 := by omega
   generalize d[i]?.getD 0 = q1 at *
   generalize d[j]?.getD 0 = q2 at *
   replace ej := Mr.hid ej
   replace ej2 := Mr.hid ej2
   replace hj := Mr.hid hj
   replace hO := Mr.hid hO
   replace hF := Mr.hid hF
   replace st := Mr.hid st
   replace hg := Mr.hid hg
   clear hR' hx hs
   go_wp2_with fail
   go_region
   go_wp2
   go_roundg (gk - 1)
   case measure => omega
   case rel => exact ⟨i + 1, _, by simp, by rw [ej2.out], by omega, by rw [← ints_set, ← ints_set]; exact ((hO.out.set i hi2 (.int .i64 q2)).set j hj2 (.int .i64 q1)).drew, ((hF.out.setCell ⟨g, o + i, none⟩ (.int .i64 q2) (.inl hS)).setCell ⟨g, o + j, none⟩ (.int .i64 q1) (.inl hS)).drew, st.out⟩
  ·have d1 : decide ((i : Int) < (n : Int) - 1 - (i : Int)) = false := decide_eq_false (by omega)
   have he := rev_end hR' (by have := hn.out; omega)
   subst he
   replace hO := Mr.hid hO
   replace hF := Mr.hid hF
   clear hR'
   go_wp2
   go_end0
   exact ⟨rfl, hO.out, hF.out⟩
set_option maxRecDepth 100000 in
set_option maxHeartbeats 1000000 in
theorem turned_any {w : World} {S : Nat → Prop} {u : Value} {l : List Int} (hu : Sl w S 1 u l.length (ints l)) (hsm : l.length * 8 ≤ 225100000000000) :
  Calls Tryz.prog 114 #[u] w fun e w' => ∃ v', e = .returned v' ∧ Own w' (fun k => w.heap.size ≤ k) 3 1 v' l.length (ints l.reverse) ∧ Below w.heap.size w w' := by
 obtain ⟨a, c, rfl, hc⟩ := hu.form
 have C1 := cloneI_any hu hsm
 have C2 := fun (w' : World) v (h : Own w' (fun k => w.heap.size ≤ k) 3 1 v l.length (ints l)) => reverse_any h
 clear hu
 replace C1 := Mr.hid C1
 replace C2 := Mr.hid C2
 go_enter Tryz.func114, Tryz.ntmps114
 go_wp2_with (first | (go_at_call 113; refine C1.out.mono ?_; rintro e w1 ⟨v1, rfl, hO, hB⟩; obtain ⟨a1, c1, rfl, _, _⟩ := hO.form; replace hO := Mr.hid hO) | (go_at_call 119; refine (C2.out _ _ hO.out).mono ?_; rintro e w2 ⟨rfl, hO2, hF⟩))
 go_ret
 exact ⟨_, rfl, hO2, hB.trans (hF.below (fun _ h => h) hB.size)⟩
end Go.Proofs.YtnbibkohgppjnaaGreat.Md
namespace Go.Proofs.YtnbibkohgppjnaaGreat.Md
open Go.RowKit Mr
section
variable {P : Program} (w : World)
theorem wp_run2 {o : Oper} {a : Act} {K : Act → World → Prop} {Q : Exit → Act → World → Prop} (s x : Operand) (t t' : TypeId) (v u v' : Value) (w' : World)
  (ho : o.op = .call { callee := .builtin .append, args := #[s, x], argTypes := #[t, t'] }) (hs : a.eval s = v) (hx : a.eval x = u) (hr : (Builtin.append_ #[t, t'] o.type #[v, u]).run P w = .ok v' w') (h : K (a.put o.dst v') w') : o.wp P a w K Q := by
 unfold Oper.wp execOp
 simp only [ho, resolve, invoke, builtin, Sem.run_bind, Sem.run_pure, Result.andThen_ok, List.map_toArray, List.map_cons, List.map_nil, hs, hx, hr]
 exact h
theorem step_run2 {ops : Array Oper} {o : Oper} {a : Act} {K : Act → World → Prop} {Q : Exit → Act → World → Prop} {E : Prop} (hgd : o.guard = none) (s x : Operand) (t t' : TypeId) (v u v' : Value) (w' : World)
  (ho : o.op = .call { callee := .builtin .append, args := #[s, x], argTypes := #[t, t'] }) (hs : a.eval s = v) (hx : a.eval x = u) (hr : (Builtin.append_ #[t, t'] o.type #[v, u]).run P w = .ok v' w') (h : K (a.put o.dst v') w') :
  if Region.wanted o (yielded ops a.tmps) = true then Oper.wp P o a w K Q else E := by
 have hw : Region.wanted o (yielded ops a.tmps) = true := by simp [Region.wanted, hgd]
 rw [if_pos hw]
 exact wp_run2 w s x t t' v u v' w' ho hs hx hr h
theorem wpList_run2 {ops : Array Oper} {rest : List Oper} {o : Oper} {a : Act} {Q : Exit → Act → World → Prop} (hgd : o.guard = none) (s x : Operand) (t t' : TypeId) (v u v' : Value) (w' : World)
  (ho : o.op = .call { callee := .builtin .append, args := #[s, x], argTypes := #[t, t'] }) (hs : a.eval s = v) (hx : a.eval x = u) (hr : (Builtin.append_ #[t, t'] o.type #[v, u]).run P w = .ok v' w') (h : wpList P ops Q rest (a.put o.dst v') w') : wpList P ops Q (o :: rest) a w :=
 wpList_plain hgd fun _ hK => wp_run2 w s x t t' v u v' w' ho hs hx hr (hK _ _ h)
theorem wp_copy2 {o : Oper} {a : Act} {K : Act → World → Prop} {Q : Exit → Act → World → Prop} (s x : Operand) (t t' : TypeId) (v u v' : Value) (w' : World)
  (ho : o.op = .call { callee := .builtin .copy, args := #[s, x], argTypes := #[t, t'] }) (hs : a.eval s = v) (hx : a.eval x = u) (hr : (Builtin.copy_ #[t, t'] o.type #[v, u]).run P w = .ok v' w') (h : K (a.put o.dst v') w') : o.wp P a w K Q := by
 unfold Oper.wp execOp
 simp only [ho, resolve, invoke, builtin, Sem.run_bind, Sem.run_pure, Result.andThen_ok, List.map_toArray, List.map_cons, List.map_nil, hs, hx, hr]
 exact h
theorem step_copy2 {ops : Array Oper} {o : Oper} {a : Act} {K : Act → World → Prop} {Q : Exit → Act → World → Prop} {E : Prop} (hgd : o.guard = none) (s x : Operand) (t t' : TypeId) (v u v' : Value) (w' : World)
  (ho : o.op = .call { callee := .builtin .copy, args := #[s, x], argTypes := #[t, t'] }) (hs : a.eval s = v) (hx : a.eval x = u) (hr : (Builtin.copy_ #[t, t'] o.type #[v, u]).run P w = .ok v' w') (h : K (a.put o.dst v') w') :
  if Region.wanted o (yielded ops a.tmps) = true then Oper.wp P o a w K Q else E := by
 have hw : Region.wanted o (yielded ops a.tmps) = true := by simp [Region.wanted, hgd]
 rw [if_pos hw]
 exact wp_copy2 w s x t t' v u v' w' ho hs hx hr h
end
theorem seg_keep (cur zs : List Value) (o k p q : Nat) (h : o + k ≤ p) (hp : p ≤ cur.length) : ((cur.take p ++ zs ++ cur.drop q).drop o).take k = (cur.drop o).take k := by
 rw [List.append_assoc, List.drop_append_of_le_length (by rw [List.length_take]; omega), List.take_append_of_le_length (by rw [List.length_drop, List.length_take]; omega), List.drop_take, List.take_take, Nat.min_eq_left (by omega)]
theorem seg_take (cur xs : List Value) (o k m : Nat) (hx : (cur.drop o).take k = xs) (hm : m ≤ k) : (cur.drop o).take m = xs.take m := by
 rw [← hx, List.take_take, Nat.min_eq_left hm]
theorem seg_size (cur zs : List Value) (p : Nat) (h : p + zs.length ≤ cur.length) : (cur.take p ++ zs ++ cur.drop (p + zs.length)).length = cur.length := by
 simp; omega
theorem ints_cut (l : List Int) (i : Nat) : (ints l).take (i * 1) ++ (ints l).drop ((i + 1) * 1) = ints (l.take i ++ l.drop (i + 1)) := by simp [ints]
theorem prsM_take (l : List (Int × Int)) (i : Nat) : (prs l).take (i * 2) = prs (l.take i) := by
 induction l generalizing i with
 | nil => simp [prs]
 | cons x l ih =>
  cases i with
  | zero => simp [prs]
  | succ i =>
   have := ih i
   simp only [prs, List.flatMap_cons, pr] at this ⊢
   rw [show (i + 1) * 2 = i * 2 + 2 from by omega]
   simp only [List.cons_append, List.nil_append, List.take_succ_cons, List.flatMap_cons, pr]
   rw [this]
theorem prsM_drop (l : List (Int × Int)) (i : Nat) : (prs l).drop (i * 2) = prs (l.drop i) := by
 induction l generalizing i with
 | nil => simp [prs]
 | cons x l ih =>
  cases i with
  | zero => simp [prs]
  | succ i =>
   have := ih i
   simp only [prs, List.flatMap_cons, pr] at this ⊢
   rw [show (i + 1) * 2 = i * 2 + 2 from by omega]
   simp only [List.cons_append, List.nil_append, List.drop_succ_cons]
   exact this
theorem prs_app (l m : List (Int × Int)) : prs l ++ prs m = prs (l ++ m) := by simp [prs]
theorem prs_cut (l : List (Int × Int)) (i : Nat) : (prs l).take (i * 2) ++ (prs l).drop ((i + 1) * 2) = prs (l.take i ++ l.drop (i + 1)) := by
 rw [prsM_take, prsM_drop, prs_app]
end Go.Proofs.YtnbibkohgppjnaaGreat.Md
namespace Go.Proofs.YtnbibkohgppjnaaGreat.Ws
open Go.RowKit Mr Md
structure Pt (w : World) (A R : Nat) (k : Nat) (xs : List Int) : Prop where
 len : xs.length = k
 arr : ∃ cur t, w.heap[A]? = some (.cells cur t (0, 0)) ∧ cur.toList = ints (xs ++ List.replicate (22 - k) 0)
 le : k ≤ 22
 room : k < 22 → w.cell? ⟨R, 0, none⟩ = some (.slice (some ⟨A, k, none⟩) (22 - k) (22 - k))
 box : ∃ v t, w.heap[R]? = some (.cells #[v] t (0, 0))
 ne : A ≠ R
theorem copy_zero {P : Program} (w : World) (dT sT ty elem : TypeId) (b : Addr) (a : Option Addr) (dLen dCap c : Nat) (hu : P.underlying dT = some (.slice elem)) (hs : ((P.info? elem).map (·.size)).isSome = true) :
  (Builtin.copy_ #[dT, sT] ty #[.slice (some b) dLen dCap, .slice a 0 c]).run P w = .ok (goInt 0) w := by
 cases hq : P.info? elem with
 | none => simp [hq] at hs
 | some i =>
  cases a with
  | none => simp [Builtin.copy_, run_underlying hu, Builtin.lenOf, Builtin.firstCells, sizeOf, typeInfo, hq, storeCells]
  | some a =>
   have := run_loadCells_list (P := P) w a [] (by simp)
   simp at this
   simp [Builtin.copy_, run_underlying hu, Builtin.lenOf, Builtin.firstCells, sizeOf, typeInfo, hq, storeCells, this]
theorem put_list (xs ys : List Int) (k : Nat) (hk : xs.length = k) (hy : k + ys.length ≤ 22) (cur : List Value) (hc : cur = ints (xs ++ List.replicate (22 - k) 0)) :
  cur.take k ++ ints ys ++ cur.drop (k + (ints ys).length) = ints ((xs ++ ys) ++ List.replicate (22 - (k + ys.length)) 0) := by
 subst hc
 have e : (ints ys).length = ys.length := by simp [ints]
 rw [e]
 unfold ints
 rw [← List.map_take, ← List.map_drop, ← List.map_append, ← List.map_append]
 congr 1
 rw [List.take_append_of_le_length (by omega), List.take_of_length_le (by omega), List.drop_append, List.drop_eq_nil_of_le (by omega), List.nil_append, List.drop_replicate]
 congr 2
 omega
theorem put_copy {w : World} {A R k : Nat} {xs ys : List Int} {T : Nat → Prop} {a : Option Addr} {cap : Nat} (h : Pt w A R k xs) (hk : k < 22) (hy : k + ys.length ≤ 22) (hs : Sl w T 1 (.slice a ys.length cap) ys.length (ints ys)) :
  ∃ w1, (∀ ty, (Builtin.copy_ #[24, 24] ty #[.slice (some ⟨A, k, none⟩) (22 - k) (22 - k), .slice a ys.length cap]).run Tryz.prog w = .ok (.int .i64 (ys.length : Int)) w1) ∧
   (∃ cur t, w1.heap[A]? = some (.cells cur t (0, 0)) ∧ cur.toList = ints ((xs ++ ys) ++ List.replicate (22 - (k + ys.length)) 0)) ∧ Fr w w1 (fun b => b = A) := by
 obtain ⟨h1, a', cap', hv, hc, h2⟩ := hs
 cases hv
 obtain ⟨cur, t, hA, hcur⟩ := h.arr
 have hl := h.len
 rcases Nat.eq_zero_or_pos ys.length with h0 | h0
 ·have : ys = [] := List.eq_nil_of_length_eq_zero h0
  subst this
  refine ⟨w, fun ty => copy_zero w _ _ _ 3 _ _ _ _ _ Tryz.underlying24 (by kernel_rfl), ⟨cur, t, hA, ?_⟩, Fr.refl _ _⟩
  simpa using hcur
 ·rcases h2 with h2 | ⟨b, o, rfl, hT, hb, hr⟩
  ·omega
  ·have hcl : cur.size = 22 := by
    rw [← Array.length_toList, hcur]
    simp [ints, hl]; omega
   have hone : ∀ v ∈ ints ys, v.oneCell' = true := fun v hv => by
    obtain ⟨n, _, rfl⟩ := List.mem_map.1 hv
    rfl
   have hrun : ∀ ty, (Builtin.copy_ #[24, 24] ty #[.slice (some ⟨A, k, none⟩) (22 - k) (22 - k), .slice (some ⟨b, o, none⟩) ys.length cap]).run Tryz.prog w = .ok (goInt (ints ys).length) (w.setRow A (cur.toList.take k ++ ints ys ++ cur.toList.drop (k + (ints ys).length)).toArray) := fun ty =>
    run_copy_row Tryz.prog w 24 24 ty 3 A k (22 - k) (22 - k) ⟨b, o, none⟩ ys.length cap cur t (ints ys) Tryz.underlying24 (by kernel_rfl) hA (by rw [h1, Nat.mul_one]; exact (Nat.min_eq_left (by omega)).symm) (fun j v hj => by rw [Addr.add_lit]; exact hr j v hj) (by rw [hcl, h1]; omega) hone
   refine ⟨w.setRow A (cur.toList.take k ++ ints ys ++ cur.toList.drop (k + (ints ys).length)).toArray, fun ty => ?_, ⟨_, t, setRow_heap w A cur _ t _ hA, ?_⟩, setRow_fr (S := fun b => b = A) rfl _⟩
   ·rw [hrun, h1, Nat.mul_one]; rfl
   ·exact put_list xs ys k hl hy cur.toList hcur
theorem put_end {w w1 : World} {A R k m rt : Nat} {xs ys : List Int} {r0 v : Value} (hl : xs.length = k) (hm : ys.length = m) (hy : k + m ≤ 22) (hne : A ≠ R) (hA : ∃ cur t, w1.heap[A]? = some (.cells cur t (0, 0)) ∧ cur.toList = ints ((xs ++ ys) ++ List.replicate (22 - (k + m)) 0)) (hR : w1.heap[R]? = some (.cells #[r0] rt (0, 0))) (hF : Fr w w1 (fun b => b = A)) (hv : k + m < 22 → v = .slice (some ⟨A, k + m, none⟩) (22 - (k + m)) (22 - (k + m))) :
  Pt (w1.setCell ⟨R, 0, none⟩ v) A R (k + m) (xs ++ ys) ∧ Fr w (w1.setCell ⟨R, 0, none⟩ v) (fun b => b = A ∨ b = R) := by
 obtain ⟨cur, t, hA, hc⟩ := hA
 have hb := heap_setCell_same w1 R 0 _ _ v hR
 refine ⟨⟨by simp [hl, hm], ⟨cur, t, (heap_setCell_other w1 _ A v hne).trans hA, hc⟩, hy, fun h => ?_, ⟨v, rt, by simpa using hb⟩, hne⟩, (hF.mono (fun _ h => .inl h)).setCell _ _ (.inl (.inr rfl))⟩
 rw [← hv h]
 exact World.cell?_setCell_same' _ _ _ (by simp [World.cell?, hR])
set_option maxHeartbeats 4000000 in
theorem put_any {w : World} {A R k : Nat} {xs ys : List Int} {T : Nat → Prop} {v : Value} (h : Pt w A R k xs) (hk : k < 22) (hy : k + ys.length ≤ 22) (hs : Sl w T 1 v ys.length (ints ys)) :
  Calls Tryz.prog 48 #[v, .pointer (some ⟨R, 0, none⟩)] w fun e w' => e = .returned (.tuple #[]) ∧ Pt w' A R (k + ys.length) (xs ++ ys) ∧ Fr w w' (fun b => b = A ∨ b = R) := by
 obtain ⟨a, cap, rfl, hc⟩ := hs.form
 have h' : Pt w.drew A R k xs := ⟨h.len, h.arr, h.le, h.room, h.box, h.ne⟩
 have hs' : Sl w.drew T 1 (.slice a ys.length cap) ys.length (ints ys) := hs.below (Below.refl _ _).drew
 obtain ⟨w1, hr, hA1, hF1⟩ := put_copy h' hk hy hs'
 have hR := h.room hk
 obtain ⟨rv, rt, hRb⟩ := h.box
 have hRl : R < w.heap.size := (Array.getElem?_eq_some_iff.1 hRb).1
 obtain rfl : rv = .slice (some ⟨A, k, none⟩) (22 - k) (22 - k) := by
  have : w.cell? ⟨R, 0, none⟩ = some rv := by simp [World.cell?, hRb]
  rw [this] at hR; exact Option.some.inj hR
 have hRb1 : w1.heap[R]? = some (.cells #[.slice (some ⟨A, k, none⟩) (22 - k) (22 - k)] rt (0, 0)) := (hF1.block R hRl (fun e => h.ne e.symm)).trans hRb
 have hR1 : w1.cell? ⟨R, 0, none⟩ = some (.slice (some ⟨A, k, none⟩) (22 - k) (22 - k)) := by simp [World.cell?, hRb1]
 have hRz : w1.frozen? ⟨R, 0, none⟩ = false := by simp [World.frozen?, hRb1]
 have hF0 : Hid (Fr w w1 (fun b => b = A)) := ((Fr.refl w (fun b => b = A)).drew.trans (hF1.mono (fun _ h => .inl h)))
 have hl := h.len
 have hne := h.ne
 replace hr := Mr.hid hr
 replace hA1 := Mr.hid hA1
 replace hRb1 := Mr.hid hRb1
 have qk : 22 - k ≠ 0 := by omega
 clear hs hs' h' hF1 hRb h
 generalize hm : ys.length = m at *
 generalize hL : 22 - k = L at *
 have q1 : (0 : Int) ≤ (m : Int) := by omega
 have q2 : (m : Int) ≤ (L : Int) := by omega
 by_cases e : L = m
 ·subst e
  go_enter Tryz.func48, Tryz.ntmps48
  go_region_law (refine step_copy2 _ rfl (.tmp 4) (.tmp 5) 24 24 (.slice (some ⟨A, k, none⟩) L L) (.slice a L cap) (.int .i64 (L : Int)) w1 rfl (by simp [Act.eval, Act.put]) (by simp [Act.eval, Act.put]) (hr.out _) ?_)
  all_goals go_wp2
  all_goals go_end0
  all_goals exact ⟨rfl, put_end hl hm hy hne hA1.out hRb1.out hF0.out (fun h => by omega)⟩
 ·have e2 : L - m ≠ 0 := by omega
  go_enter Tryz.func48, Tryz.ntmps48
  go_region_law (refine step_copy2 _ rfl (.tmp 4) (.tmp 5) 24 24 (.slice (some ⟨A, k, none⟩) L L) (.slice a m cap) (.int .i64 (m : Int)) w1 rfl (by simp [Act.eval, Act.put]) (by simp [Act.eval, Act.put]) (hr.out _) ?_)
  all_goals go_wp2
  all_goals go_end0
  all_goals exact ⟨rfl, put_end hl hm hy hne hA1.out hRb1.out hF0.out (fun h => by rw [show 22 - (k + m) = L - m from by omega])⟩
end Go.Proofs.YtnbibkohgppjnaaGreat.Ws
