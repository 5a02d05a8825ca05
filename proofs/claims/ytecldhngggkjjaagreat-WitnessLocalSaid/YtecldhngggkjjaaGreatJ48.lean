import Derived.Test.YtecldhngggkjjaaGreatJ13
import Derived.Deep.LoopGhost
import Derived.BigQuiet
import Derived.Test.YtecldhngggkjjaaGreatJ42
import Derived.Test.YtecldhngggkjjaaGreatJ44
import Derived.Test.YtecldhngggkjjaaGreatJ47
import Derived.Test.YtecldhngggkjjaaGreatJ01
set_option linter.unusedVariables false
set_option linter.unusedSimpArgs false
set_option maxRecDepth 100000
namespace Go.Proofs.YtecldhngggkjjaaGreat.Wt
open Go.RowKit Mr Md
set_option maxHeartbeats 8000000 in
theorem has_any {W : World} {T : Nat → Prop} {u : Value} {l : List Int} (hu : Sl W T 1 u l.length (ints l)) (hso : l.length * 8 ≤ 281474976710656) (x : Int) :
  Calls Tryz.prog 59 #[u, .int .i64 x] W fun e w' => e = .returned (.bool (decide (x ∈ l))) ∧ Below W.heap.size W w' := by
 obtain ⟨b, hb⟩ : ∃ b, b = decide (x ∈ l) := ⟨_, rfl⟩
 rw [← hb]
 replace hb : Hid (b = true ↔ x ∈ l) := by rw [hb]; exact decide_eq_true_iff
 obtain ⟨au, cu, rfl, hcu⟩ := hu.form
 obtain ⟨n, hn⟩ : ∃ n, n = l.length := ⟨_, rfl⟩
 rw [← hn] at hu hso ⊢
 replace hn := Mr.hid hn
 replace hu := Mr.hid hu
 clear hcu
 go_enter Tryz.func59, Tryz.ntmps59
 go_wp2
 go_loopg [5] n (fun k s5 wr => ∃ i : Nat, s5 = .int .i64 (i : Int) ∧ i + k = n ∧ Below W.heap.size W wr ∧ ∀ j, j < i → l[j]? ≠ some x)
 case atStart => exact ⟨0, rfl, by omega, Below.refl _ _, fun j hj => by omega⟩
 case round =>
  obtain ⟨i, rfl, hi, B, ht⟩ := hrel
  by_cases hlt : i < n
  ·obtain ⟨y, hy⟩ : ∃ y, l[i]? = some y := ⟨l[i]'(by have := hn.out; omega), List.getElem?_eq_getElem _⟩
   obtain ⟨g1, o1, c1, e1, _, _, hl1, r1⟩ := (hu.out.below B).there (by omega)
   cases e1
   have k1 := r1 i _ (by rw [ints, List.getElem?_map, hy]; rfl)
   have hlI : (i : Int) < (n : Int) := by omega
   have hw1 : IntKind.i64.wrap ((i : Int) + 1) = (i : Int) + 1 := i64x _ (by omega) (by omega)
   clear r1
   replace B := Mr.hid B
   by_cases he : y = x
   ·have hbt : b = true := hb.out.2 (by rw [← he]; exact List.mem_of_getElem? hy)
    have he2 : (y == x) = true := by simp [he]
    subst hbt
    replace he := Mr.hid he
    replace hy := Mr.hid hy
    replace ht := Mr.hid ht
    go_wp2
    go_ret
    exact ⟨rfl, B.out⟩
   ·have he2 : (y == x) = false := by simp [he]
    have hn2 := Mr.hid (fun j (hj : j < i + 1) => (by
     by_cases hji : j < i
     ·exact ht j hji
     ·have : j = i := by omega
      subst this; rw [hy]; exact fun e => he (Option.some.inj e) : l[j]? ≠ some x))
    replace he := Mr.hid he
    replace hy := Mr.hid hy
    replace ht := Mr.hid ht
    go_wp2
    go_roundg (gk - 1)
    case measure => omega
    case rel => exact ⟨i + 1, by simp, by omega, B.out, hn2.out⟩
  ·have hbf : b = false := by
    cases hbb : b with
    | false => rfl
    | true =>
     obtain ⟨j, hj⟩ := List.getElem?_of_mem (hb.out.1 hbb)
     exact absurd hj (ht j (by have := (List.getElem?_eq_some_iff.1 hj).1; have := hn.out; omega))
   subst hbf
   have dl : decide ((i : Int) < (n : Int)) = false := decide_eq_false (by omega)
   replace B := Mr.hid B
   replace ht := Mr.hid ht
   go_wp2
   go_ret
   exact ⟨rfl, B.out⟩
theorem sl_takeI {W : World} {T : Nat → Prop} {a : Option Addr} {cap : Nat} {l : List Int} (h : Sl W T 1 (.slice a l.length cap) l.length (ints l)) {k : Nat} (hk : k ≤ l.length) : Sl W T 1 (.slice a k cap) (l.take k).length (ints (l.take k)) := by
 have e : (l.take k).length = k := by simp; omega
 obtain ⟨h1, a', cap', hv, hc, h2⟩ := h
 cases hv
 refine ⟨by simp [ints], _, cap, by rw [e], by rw [e]; omega, ?_⟩
 rcases h2 with h2 | ⟨b, o, ha, hT, hl, hr⟩
 ·exact .inl (by rw [e]; omega)
 ·refine .inr ⟨b, o, ha, hT, hl, fun j u hu => hr j u ?_⟩
  rw [show ints (l.take k) = (ints l).take k from by simp [ints, List.map_take], List.getElem?_take] at hu
  split at hu
  ·exact hu
  ·cases hu
end Go.Proofs.YtecldhngggkjjaaGreat.Wt
namespace Go.Proofs.YtecldhngggkjjaaGreat.Wt
open Go.RowKit Mr Md
section
variable {W : World} {T T' : Nat → Prop} {v u : Value} {cs : List Cq} {o : List Int}
set_option maxHeartbeats 16000000 in
theorem rIsOrder_any (hv : Sl W T 9 v cs.length (cqs cs)) (hu : Sl W T' 1 u o.length (ints o)) (hsm : cs.length * 72 ≤ 281474976710656) (hso : o.length * 8 ≤ 281474976710656) (b : Bool) (hb : b = true ↔ IsOrd cs o) :
  Calls Tryz.prog 38 #[v, u] W fun e w' => e = .returned (.bool b) ∧ Below W.heap.size W w' := by
 obtain ⟨a, cap, rfl, hcap⟩ := hv.form
 obtain ⟨au, cu, rfl, hcu⟩ := hu.form
 have HA := fun k (hk : k ≤ o.length) w' (hB : Below W.heap.size W w') x => has_any (sl_takeI (hu.below hB) hk) (Nat.le_trans (Nat.mul_le_mul_right _ (by simp; omega)) hso) x
 have HW := fun w' (hB : Below W.heap.size W w') x => has_any (hu.below hB) hso x
 obtain ⟨n, hn⟩ : ∃ n, n = cs.length := ⟨_, rfl⟩
 obtain ⟨m, hm⟩ : ∃ m, m = o.length := ⟨_, rfl⟩
 rw [← hn, ← hm]
 rw [← hn] at hsm
 rw [← hm] at hso hu hcu HA HW
 replace hn := Mr.hid hn
 replace hm := Mr.hid hm
 replace hv := Mr.hid hv
 replace hu := Mr.hid hu
 replace hb := Mr.hid hb
 replace HA := Mr.hid HA
 replace HW := Mr.hid HW
 go_enter Tryz.func38, Tryz.ntmps38
 go_wp2
 go_loopg [5] m (fun q s5 wr => ∃ k : Nat, s5 = .int .i64 (k : Int) ∧ k + q = m ∧ Some1 cs o k ∧ Below W.heap.size W wr)
 case atStart => exact ⟨0, rfl, by omega, Some1.zero _ _, Below.refl _ _⟩
 case round =>
  obtain ⟨k, rfl, hk, hS, B⟩ := hrel
  by_cases hlt : k < m
  ·obtain ⟨x, hx⟩ : ∃ x, o[k]? = some x := ⟨o[k]'(by have := hm.out; omega), List.getElem?_eq_getElem _⟩
   have hno := Some1.not (cs := cs) (o := o) (n := k) (x := x) (by have := hm.out; omega) hx
   obtain ⟨g1, o1, c1, e1, _, _, hl1, r1⟩ := (hu.out.below B).there (by omega)
   cases e1
   have k1 := r1 k _ (by rw [ints, List.getElem?_map, hx]; rfl)
   have hlI : (k : Int) < (m : Int) := by omega
   have hw1 : IntKind.i64.wrap ((k : Int) + 1) = (k : Int) + 1 := i64x _ (by omega) (by omega)
   have q0 : (0 : Int) ≤ (k : Int) := by omega
   have q1 : (k : Int) ≤ (cu : Int) := by omega
   clear r1
   by_cases hin : 0 ≤ x ∧ x < (n : Int)
   ·obtain ⟨j, rfl⟩ : ∃ j : Nat, x = (j : Int) := ⟨x.toNat, by omega⟩
    have hjn : j < n := by omega
    obtain ⟨c, hcj⟩ := get_of_lt (cs := cs) (i := j) (by have := hn.out; omega)
    obtain ⟨bc, oc, rfl, A9⟩ := call_at (hv.out.below B) hcj
    obtain ⟨hbl, g0, g1, g2, g3, g4, g5, g6, g7, g8⟩ := A9
    have f1 : (j : Int) < (n : Int) := by omega
    have f2 : decide ((n : Int) ≤ (j : Int)) = false := decide_eq_false (by omega)
    have CT := fun w => rCounts_any c w
    unfold Cq.val at CT
    have HK := fun w hB => HA.out k (by omega) w hB (j : Int)
    replace hin := Mr.hid hin
    replace hcj := Mr.hid hcj
    replace B := Mr.hid B
    by_cases ho : obj c.op = 0
    ·have hct1 : (obj c.op != 0) = false := by simp [ho]
     rw [hct1] at CT
     have hbf : b = false := by
      cases hbb : b with
      | false => rfl
      | true => exact absurd (hb.out.1 hbb) (hno (fun h => by obtain ⟨_, ⟨c', hc', hoo⟩, _⟩ := h; rw [Int.toNat_natCast, hcj.out] at hc'; cases hc'; exact hoo ho))
     subst hbf
     replace CT := Mr.hid CT
     replace ho := Mr.hid ho
     replace hno := Mr.hid hno
     replace hx := Mr.hid hx
     replace hS := Mr.hid hS
     clear HK
     go_wp2_with (go_at_call 58; refine (CT.out _).mono ?_; clear CT; rintro e w6 ⟨rfl, hB6⟩; replace B := Mr.hid (B.out.trans (hB6.mono B.out.size)); clear hB6)
     go_ret
     exact ⟨rfl, B.out⟩
    ·have hct1 : (obj c.op != 0) = true := by simp [ho]
     rw [hct1] at CT
     by_cases hp : (j : Int) ∈ o.take k
     ·have hbf : b = false := by
       cases hbb : b with
       | false => rfl
       | true => exact absurd (hb.out.1 hbb) (hno (fun h => h.2.2 hp))
      subst hbf
      rw [decide_eq_true hp] at HK
      replace HK := Mr.hid HK
      replace CT := Mr.hid CT
      replace ho := Mr.hid ho
      replace hp := Mr.hid hp
      replace hno := Mr.hid hno
      replace hx := Mr.hid hx
      replace hS := Mr.hid hS
      go_wp2_with (first
       | (go_at_call 58; refine (CT.out _).mono ?_; clear CT; rintro e w6 ⟨rfl, hB6⟩; replace B := Mr.hid (B.out.trans (hB6.mono B.out.size)); clear hB6)
       | (go_at_call 59; refine (HK.out _ B.out).mono ?_; clear HK; rintro e w7 ⟨rfl, hB6⟩; replace B := Mr.hid (B.out.trans (hB6.mono B.out.size)); clear hB6))
      go_ret
      exact ⟨rfl, B.out⟩
     ·have hSn := Mr.hid (hS.succ hx (by omega) (by rw [Int.toNat_natCast]; exact hcj.out) ho hp)
      rw [decide_eq_false hp] at HK
      replace HK := Mr.hid HK
      replace CT := Mr.hid CT
      replace ho := Mr.hid ho
      replace hp := Mr.hid hp
      replace hno := Mr.hid hno
      replace hx := Mr.hid hx
      replace hS := Mr.hid hS
      go_wp2_with (first
       | (go_at_call 58; refine (CT.out _).mono ?_; clear CT; rintro e w6 ⟨rfl, hB6⟩; replace B := Mr.hid (B.out.trans (hB6.mono B.out.size)); clear hB6)
       | (go_at_call 59; refine (HK.out _ B.out).mono ?_; clear HK; rintro e w7 ⟨rfl, hB6⟩; replace B := Mr.hid (B.out.trans (hB6.mono B.out.size)); clear hB6))
      go_roundg (gk - 1)
      case measure => omega
      case rel => exact ⟨k + 1, by simp, by omega, hSn.out, B.out⟩
   ·have hbf : b = false := by
     cases hbb : b with
     | false => rfl
     | true => exact absurd (hb.out.1 hbb) (hno (fun h => by
       obtain ⟨h0, ⟨c', hc', _⟩, _⟩ := h
       have := (List.getElem?_eq_some_iff.1 hc').1
       have := hn.out
       omega))
    subst hbf
    replace hno := Mr.hid hno
    replace hx := Mr.hid hx
    replace hS := Mr.hid hS
    replace B := Mr.hid B
    by_cases hx0 : x < 0
    ·have f0 : decide (x < 0) = true := decide_eq_true hx0
     clear hin
     go_wp2
     go_ret
     exact ⟨rfl, B.out⟩
    ·have f0 : decide (x < 0) = false := decide_eq_false hx0
     have f2 : decide ((n : Int) ≤ x) = true := decide_eq_true (by omega)
     clear hin
     go_wp2
     go_ret
     exact ⟨rfl, B.out⟩
  ·have hin : k = o.length := by have := hm.out; omega
   rw [hin] at hS
   clear hin
   have dl : decide ((k : Int) < (m : Int)) = false := decide_eq_false (by omega)
   replace hS := Mr.hid hS
   replace B := Mr.hid B
   go_wp2
   go_loopg [7] n (fun q s7 wr => ∃ i : Nat, s7 = .int .i64 (i : Int) ∧ i + q = n ∧ Full1 cs o i ∧ Below W.heap.size W wr)
   case atStart => exact ⟨0, rfl, by omega, fun j d hj => by omega, B.out⟩
   case round =>
    clear B
    obtain ⟨i, rfl, hi, hF, B⟩ := hrel
    by_cases hlt2 : i < n
    ·obtain ⟨c, hci⟩ := get_of_lt (cs := cs) (i := i) (by have := hn.out; omega)
     obtain ⟨bc, oc, rfl, A9⟩ := call_at (hv.out.below B) hci
     have RD : ∀ w, Below W.heap.size W w → At9 w bc (oc + i * 9) c := fun w hB => by
      obtain ⟨b', o', e, h⟩ := call_at (hv.out.below hB) hci
      cases e; exact h
     obtain ⟨hbl, g0, g1, g2, g3, g4, g5, g6, g7, g8⟩ := A9
     have hlI : (i : Int) < (n : Int) := by omega
     have hw1 : IntKind.i64.wrap ((i : Int) + 1) = (i : Int) + 1 := i64x _ (by omega) (by omega)
     have CT := fun w => rCounts_any c w
     unfold Cq.val at CT
     have HK := fun w hB => HW.out w hB (i : Int)
     replace RD := Mr.hid RD
     replace hci := Mr.hid hci
     replace hF := Mr.hid hF
     replace B := Mr.hid B
     by_cases ho : obj c.op = 0
     ·have hct1 : (obj c.op != 0) = false := by simp [ho]
      have hFn := Mr.hid (full_succ hF.out hci.out (fun h => absurd ho h))
      rw [hct1] at CT
      replace CT := Mr.hid CT
      replace ho := Mr.hid ho
      clear HK
      go_wp2_with (go_at_call 58; refine (CT.out _).mono ?_; clear CT; rintro e w6 ⟨rfl, hB6⟩; replace B := Mr.hid (B.out.trans (hB6.mono B.out.size)); clear hB6)
      go_roundg (gk - 1)
      case measure => omega
      case rel => exact ⟨i + 1, by simp, by omega, hFn.out, B.out⟩
     ·have hct1 : (obj c.op != 0) = true := by simp [ho]
      rw [hct1] at CT
      replace CT := Mr.hid CT
      by_cases he : c.fin = -1
      ·have hFn := Mr.hid (full_succ hF.out hci.out (fun _ h => absurd he h))
       have hE : (c.fin != -1) = false := by simp [he]
       replace ho := Mr.hid ho
       replace he := Mr.hid he
       clear HK
       go_wp2_with (go_at_call 58; refine (CT.out _).mono ?_; clear CT; rintro e w6 ⟨rfl, hB6⟩; replace B := Mr.hid (B.out.trans (hB6.mono B.out.size)); clear hB6; clear g0 g1 g2 g3 g4 g5 g6 g7 g8 hbl; obtain ⟨hbl, g0, g1, g2, g3, g4, g5, g6, g7, g8⟩ := RD.out _ B.out)
       go_roundg (gk - 1)
       case measure => omega
       case rel => exact ⟨i + 1, by simp, by omega, hFn.out, B.out⟩
      ·have hE : (c.fin != -1) = true := by simp [he]
       by_cases hp : (i : Int) ∈ o
       ·have hFn := Mr.hid (full_succ hF.out hci.out (fun _ _ => hp))
        rw [decide_eq_true hp] at HK
        replace HK := Mr.hid HK
        replace ho := Mr.hid ho
        replace he := Mr.hid he
        replace hp := Mr.hid hp
        go_wp2_with (first
         | (go_at_call 58; refine (CT.out _).mono ?_; clear CT; rintro e w6 ⟨rfl, hB6⟩; replace B := Mr.hid (B.out.trans (hB6.mono B.out.size)); clear hB6; clear g0 g1 g2 g3 g4 g5 g6 g7 g8 hbl; obtain ⟨hbl, g0, g1, g2, g3, g4, g5, g6, g7, g8⟩ := RD.out _ B.out)
         | (go_at_call 59; refine (HK.out _ B.out).mono ?_; clear HK; rintro e w7 ⟨rfl, hB6⟩; replace B := Mr.hid (B.out.trans (hB6.mono B.out.size)); clear hB6))
        go_roundg (gk - 1)
        case measure => omega
        case rel => exact ⟨i + 1, by simp, by omega, hFn.out, B.out⟩
       ·have hbf : b = false := by
         cases hbb : b with
         | false => rfl
         | true => exact absurd (hb.out.1 hbb) (full_not hci.out ho he hp)
        subst hbf
        rw [decide_eq_false hp] at HK
        replace HK := Mr.hid HK
        replace ho := Mr.hid ho
        replace he := Mr.hid he
        replace hp := Mr.hid hp
        go_wp2_with (first
         | (go_at_call 58; refine (CT.out _).mono ?_; clear CT; rintro e w6 ⟨rfl, hB6⟩; replace B := Mr.hid (B.out.trans (hB6.mono B.out.size)); clear hB6; clear g0 g1 g2 g3 g4 g5 g6 g7 g8 hbl; obtain ⟨hbl, g0, g1, g2, g3, g4, g5, g6, g7, g8⟩ := RD.out _ B.out)
         | (go_at_call 59; refine (HK.out _ B.out).mono ?_; clear HK; rintro e w7 ⟨rfl, hB6⟩; replace B := Mr.hid (B.out.trans (hB6.mono B.out.size)); clear hB6))
        go_ret
        exact ⟨rfl, B.out⟩
    ·have hin2 : i = cs.length := by have := hn.out; omega
     rw [hin2] at hF
     clear hin2
     have hbt : b = true := hb.out.2 ⟨hS.out, hF⟩
     subst hbt
     have dl2 : decide ((i : Int) < (n : Int)) = false := decide_eq_false (by omega)
     replace hF := Mr.hid hF
     replace B := Mr.hid B
     go_wp2
     go_ret
     exact ⟨rfl, B.out⟩
set_option maxHeartbeats 16000000 in
theorem rInTime_any (hv : Sl W T 9 v cs.length (cqs cs)) (hu : Sl W T' 1 u o.length (ints o)) (hsm : cs.length * 72 ≤ 281474976710656) (hso : o.length * 8 ≤ 281474976710656) (hO : IsOrd cs o) (b : Bool) (hb : b = true ↔ InT (ordc cs o) (ordc cs o).length) :
  Calls Tryz.prog 39 #[v, u] W fun e w' => e = .returned (.bool b) ∧ Below W.heap.size W w' := by
 obtain ⟨a, cap, rfl, hcap⟩ := hv.form
 obtain ⟨au, cu, rfl, hcu⟩ := hu.form
 have RA := fun w' (hB : Below W.heap.size W w') i j c d hc hd => rAhead_any (hv.below hB) hsm (i := i) (j := j) (c := c) (d := d) hc hd
 rw [ordc_len] at hb
 obtain ⟨n, hn⟩ : ∃ n, n = cs.length := ⟨_, rfl⟩
 obtain ⟨m, hm⟩ : ∃ m, m = o.length := ⟨_, rfl⟩
 rw [← hn, ← hm]
 rw [← hn] at hsm RA
 rw [← hm] at hso hu hcu hb
 replace hn := Mr.hid hn
 replace hm := Mr.hid hm
 replace hv := Mr.hid hv
 replace hu := Mr.hid hu
 replace hb := Mr.hid hb
 replace RA := Mr.hid RA
 replace hO := Mr.hid hO
 go_enter Tryz.func39, Tryz.ntmps39
 go_wp2
 go_loopg [5] m (fun q s5 wr => ∃ i : Nat, s5 = .int .i64 (i : Int) ∧ i + q = m ∧ InT (ordc cs o) i ∧ Below W.heap.size W wr)
 case atStart => exact ⟨0, rfl, by omega, InT.zero _, Below.refl _ _⟩
 case round =>
  obtain ⟨i, rfl, hi, hI, B⟩ := hrel
  by_cases hlt : i < m
  ·obtain ⟨x, hx⟩ : ∃ x, o[i]? = some x := ⟨o[i]'(by have := hm.out; omega), List.getElem?_eq_getElem _⟩
   obtain ⟨j, d, rfl, hd, _⟩ := hO.out.at hx
   have hod := ordc_get hx hd
   have hlI : (i : Int) < (m : Int) := by omega
   have hw1 : IntKind.i64.wrap ((i : Int) + 1) = (i : Int) + 1 := i64x _ (by omega) (by omega)
   replace hI := Mr.hid hI
   replace hx := Mr.hid hx
   replace hd := Mr.hid hd
   replace hod := Mr.hid hod
   replace B := Mr.hid B
   go_wp2
   go_loopg [6] i (fun q s6 wr => ∃ k : Nat, s6 = .int .i64 (k : Int) ∧ k + q = i ∧ Below W.heap.size W wr ∧ ∀ k' c', k' < k → (ordc cs o)[k']? = some c' → ¬ AhP d c')
   case atStart => exact ⟨0, rfl, by omega, B.out, fun k' c' h => by omega⟩
   case round =>
    clear B
    obtain ⟨k, rfl, hk, B, ht⟩ := hrel
    by_cases hki : k < i
    ·obtain ⟨y, hy⟩ : ∃ y, o[k]? = some y := ⟨o[k]'(by have := hm.out; omega), List.getElem?_eq_getElem _⟩
     obtain ⟨j2, d2, rfl, hd2, _⟩ := hO.out.at hy
     have hod2 := ordc_get hy hd2
     obtain ⟨g1, o1, c1, e1, _, _, hl1, r1⟩ := (hu.out.below B).there (by omega)
     cases e1
     have k1 := r1 i _ (by rw [ints, List.getElem?_map, hx.out]; rfl)
     have k2 := r1 k _ (by rw [ints, List.getElem?_map, hy]; rfl)
     have f1 : (k : Int) < (i : Int) := by omega
     have f2 : (k : Int) < (m : Int) := by omega
     have hw2 : IntKind.i64.wrap ((k : Int) + 1) = (k : Int) + 1 := i64x _ (by omega) (by omega)
     have AA := fun w hB => RA.out w hB j j2 d d2 hd.out hd2
     clear r1
     replace AA := Mr.hid AA
     cases hq : ahB d d2 with
     | true =>
      have hbf : b = false := by
       cases hbb : b with
       | false => rfl
       | true => exact absurd (by simpa [ahB, AhP] using hq) (hb.out.1 hbb k i d2 d hki hlt hod2 hod.out)
      subst hbf
      replace AA := AA.out
      rw [hq] at AA
      replace AA := Mr.hid AA
      replace hq := Mr.hid hq
      replace hy := Mr.hid hy
      replace hd2 := Mr.hid hd2
      replace hod2 := Mr.hid hod2
      replace ht := Mr.hid ht
      replace B := Mr.hid B
      go_upto_region 7 with (fail)
      have KK : Hid (∀ w', Below wr.heap.size wr w' → w'.cell? ⟨g1, o1 + i, none⟩ = some (.int .i64 (j : Int)) ∧ w'.cell? ⟨g1, o1 + k, none⟩ = some (.int .i64 (j2 : Int))) := fun w' hB => ⟨(hB.cell (p := ⟨g1, _, none⟩) hl1).trans k1, (hB.cell (p := ⟨g1, _, none⟩) hl1).trans k2⟩
      go_region_held3 (fun w' => w'.cell? ⟨g1, o1 + i, none⟩ = some (.int .i64 (j : Int)) ∧ w'.cell? ⟨g1, o1 + k, none⟩ = some (.int .i64 (j2 : Int))) (first | exact KK.out _ (by assumption) | go_keep) (first | (go_at_call 60; refine (AA.out _ (B.out.trans ((Below.refl _ _).drew))).mono ?_; rintro e w6 ⟨rfl, hB6⟩; replace hB6 : Below wr.heap.size wr w6 := ⟨hB6.os, hB6.tape, hB6.output, hB6.size, hB6.block⟩))
      all_goals
       replace B := Mr.hid (B.out.trans (hB6.mono B.out.size))
       clear KK k1 k2
       go_wp2
       go_ret
       exact ⟨rfl, B.out⟩
     | false =>
      have ht2 := Mr.hid (fun k' c' (hk' : k' < k + 1) (hc' : (ordc cs o)[k']? = some c') => (by
       by_cases hkk : k' < k
       ·exact ht k' c' hkk hc'
       ·have : k' = k := by omega
        subst this; rw [hod2] at hc'; cases hc'
        intro hA; simp [ahB] at hq; have := hq hA.1; have := hA.2; omega : ¬ AhP d c'))
      replace AA := AA.out
      rw [hq] at AA
      replace AA := Mr.hid AA
      replace hq := Mr.hid hq
      replace hy := Mr.hid hy
      replace hd2 := Mr.hid hd2
      replace hod2 := Mr.hid hod2
      replace ht := Mr.hid ht
      replace B := Mr.hid B
      go_upto_region 7 with (fail)
      have KK : Hid (∀ w', Below wr.heap.size wr w' → w'.cell? ⟨g1, o1 + i, none⟩ = some (.int .i64 (j : Int)) ∧ w'.cell? ⟨g1, o1 + k, none⟩ = some (.int .i64 (j2 : Int))) := fun w' hB => ⟨(hB.cell (p := ⟨g1, _, none⟩) hl1).trans k1, (hB.cell (p := ⟨g1, _, none⟩) hl1).trans k2⟩
      go_region_held3 (fun w' => w'.cell? ⟨g1, o1 + i, none⟩ = some (.int .i64 (j : Int)) ∧ w'.cell? ⟨g1, o1 + k, none⟩ = some (.int .i64 (j2 : Int))) (first | exact KK.out _ (by assumption) | go_keep) (first | (go_at_call 60; refine (AA.out _ (B.out.trans ((Below.refl _ _).drew))).mono ?_; rintro e w6 ⟨rfl, hB6⟩; replace hB6 : Below wr.heap.size wr w6 := ⟨hB6.os, hB6.tape, hB6.output, hB6.size, hB6.block⟩))
      all_goals
       replace B := Mr.hid (B.out.trans (hB6.mono B.out.size))
       clear KK k1 k2
       go_wp2
       go_roundg (gk - 1)
       case measure => omega
       case rel => exact ⟨k + 1, by simp, by omega, B.out, ht2.out⟩
    ·have hkk : k = i := by omega
     rw [hkk] at ht
     have hIn := Mr.hid (hI.out.succ hod.out ht)
     clear hkk
     have dl : decide ((k : Int) < (i : Int)) = false := decide_eq_false (by omega)
     replace ht := Mr.hid ht
     replace B := Mr.hid B
     go_wp2
     go_roundg (m - (i + 1))
     case measure => omega
     case rel => exact ⟨i + 1, by simp, by omega, hIn.out, B.out⟩
  ·have hbt : b = true := hb.out.2 (by rw [show m = i from by omega]; exact hI)
   subst hbt
   have dl : decide ((i : Int) < (m : Int)) = false := decide_eq_false (by omega)
   replace hI := Mr.hid hI
   replace B := Mr.hid B
   go_wp2
   go_ret
   exact ⟨rfl, B.out⟩
end
end Go.Proofs.YtecldhngggkjjaaGreat.Wt
namespace Go.Proofs.YtecldhngggkjjaaGreat.Wt
open Go.RowKit Mr Md
section
variable {W : World} {T T' T'' : Nat → Prop} {v u l : Value} {cs : List Cq} {o : List Int} {code : Int} {x : Ct}
set_option maxHeartbeats 16000000 in
theorem check_any (h : Rs cs o code x) (hv : Sl W T 9 v cs.length (cqs cs)) (hu : Sl W T' 1 u o.length (ints o)) (hsm : cs.length * 72 ≤ 140737488355328) (hso : o.length * 8 ≤ 281474976710656) :
  Calls Tryz.prog 15 #[v, u] W fun e w' => e = .returned (.int .i64 code) ∧ Below W.heap.size W w' := by
 have LF := left_any h hv hu hsm hso
 obtain ⟨a, cap, rfl, hcap⟩ := hv.form
 obtain ⟨au, cu, rfl, hcu⟩ := hu.form
 generalize cs.length = n at *
 generalize o.length = m at *
 replace LF := Mr.hid LF
 clear hv hu h
 go_enter Tryz.func15, Tryz.ntmps15
 go_wp2_with (go_at_call 30; refine LF.out.mono ?_; clear LF; rintro e w2 ⟨v0, v1, v2, v3, v4, rfl, hat, hB2⟩; obtain ⟨x0, j0, rfl, _⟩ := hat.cell.form; obtain ⟨x1, j1, rfl, _⟩ := hat.stack.form; obtain ⟨x2, j2, rfl, _⟩ := hat.queue.form; obtain ⟨x3, j3, rfl, _⟩ := hat.set.form; obtain ⟨x4, j4, rfl, _⟩ := hat.table.form; clear hat; replace hB2 := Mr.hid hB2)
 go_ret
 exact ⟨rfl, hB2.out.alloc hB2.out.size _⟩
set_option maxHeartbeats 16000000 in
theorem rCheck_any (h : Rs cs o code x) (hv : Sl W T 9 v cs.length (cqs cs)) (hu : Sl W T' 1 u o.length (ints o)) (hsm : cs.length * 72 ≤ 140737488355328) (hso : o.length * 8 ≤ 281474976710656) :
  Calls Tryz.prog 24 #[v, u] W fun e w' => e = .returned (.int .i64 code) ∧ Below W.heap.size W w' := by
 have hsm2 : cs.length * 72 ≤ 281474976710656 := by omega
 have RM := fun w' (hB : Below W.heap.size W w') => rMay_any (hv.below hB) hsm2
 have RO := fun b hb w' (hB : Below W.heap.size W w') => rIsOrder_any (hv.below hB) (hu.below hB) hsm2 hso b hb
 have RT := fun hO b hb w' (hB : Below W.heap.size W w') => rInTime_any (hv.below hB) (hu.below hB) hsm2 hso hO b hb
 have RP := fun hO b hb w' (hB : Below W.heap.size W w') => rPlay_any (hv.below hB) (hu.below hB) hsm hO b hb
 obtain ⟨a, cap, rfl, hcap⟩ := hv.form
 obtain ⟨au, cu, rfl, hcu⟩ := hu.form
 cases h with
 | calls h1 =>
  have M1 := RM
  rw [mayB_false h1] at M1
  replace M1 := Mr.hid M1
  clear RM RO RT RP hv hu hsm2
  generalize cs.length = n at *
  generalize o.length = m at *
  go_enter Tryz.func24, Tryz.ntmps24
  have hB := Mr.hid trivial
  go_wp2_with (first
   | (go_at_call 11; refine (M1.out _ (Below.refl _ _)).mono ?_; clear M1; rintro e w2 ⟨rfl, hB2⟩; replace hB := Mr.hid hB2; clear hB2))
  go_ret
  exact ⟨rfl, hB.out⟩
 | order h1 h2 =>
  have M1 := RM
  rw [mayB_true h1] at M1
  replace M1 := Mr.hid M1
  have O1 := Mr.hid (RO false (by simp [h2]))
  clear RM RO RT RP hv hu hsm2
  generalize cs.length = n at *
  generalize o.length = m at *
  go_enter Tryz.func24, Tryz.ntmps24
  have hB := Mr.hid trivial
  go_wp2_with (first
   | (go_at_call 11; refine (M1.out _ (Below.refl _ _)).mono ?_; clear M1; rintro e w2 ⟨rfl, hB2⟩; replace hB := Mr.hid hB2; clear hB2)
   | (go_at_call 38; refine (O1.out _ hB.out).mono ?_; clear O1; rintro e w3 ⟨rfl, hB3⟩; replace hB := Mr.hid (hB.out.trans (hB3.mono hB.out.size)); clear hB3))
  go_ret
  exact ⟨rfl, hB.out⟩
 | early h1 h2 h3 =>
  have M1 := RM
  rw [mayB_true h1] at M1
  replace M1 := Mr.hid M1
  have O1 := Mr.hid (RO true (by simp [h2]))
  have T1 := Mr.hid (RT h2 false (by simp [h3]))
  clear RM RO RT RP hv hu hsm2
  generalize cs.length = n at *
  generalize o.length = m at *
  go_enter Tryz.func24, Tryz.ntmps24
  have hB := Mr.hid trivial
  go_wp2_with (first
   | (go_at_call 11; refine (M1.out _ (Below.refl _ _)).mono ?_; clear M1; rintro e w2 ⟨rfl, hB2⟩; replace hB := Mr.hid hB2; clear hB2)
   | (go_at_call 38; refine (O1.out _ hB.out).mono ?_; clear O1; rintro e w3 ⟨rfl, hB3⟩; replace hB := Mr.hid (hB.out.trans (hB3.mono hB.out.size)); clear hB3)
   | (go_at_call 39; refine (T1.out _ hB.out).mono ?_; clear T1; rintro e w4 ⟨rfl, hB3⟩; replace hB := Mr.hid (hB.out.trans (hB3.mono hB.out.size)); clear hB3))
  go_ret
  exact ⟨rfl, hB.out⟩
 | answer h1 h2 h3 h4 =>
  have M1 := RM
  rw [mayB_true h1] at M1
  replace M1 := Mr.hid M1
  have O1 := Mr.hid (RO true (by simp [h2]))
  have T1 := Mr.hid (RT h2 true (by simp [h3]))
  have P1 := Mr.hid (RP h2 false (by simp [h4]))
  clear h3 h4
  clear RM RO RT RP hv hu hsm2
  generalize cs.length = n at *
  generalize o.length = m at *
  go_enter Tryz.func24, Tryz.ntmps24
  have hB := Mr.hid trivial
  go_wp2_with (first
   | (go_at_call 11; refine (M1.out _ (Below.refl _ _)).mono ?_; clear M1; rintro e w2 ⟨rfl, hB2⟩; replace hB := Mr.hid hB2; clear hB2)
   | (go_at_call 38; refine (O1.out _ hB.out).mono ?_; clear O1; rintro e w3 ⟨rfl, hB3⟩; replace hB := Mr.hid (hB.out.trans (hB3.mono hB.out.size)); clear hB3)
   | (go_at_call 39; refine (T1.out _ hB.out).mono ?_; clear T1; rintro e w4 ⟨rfl, hB3⟩; replace hB := Mr.hid (hB.out.trans (hB3.mono hB.out.size)); clear hB3)
   | (go_at_call 40; refine (P1.out _ hB.out).mono ?_; clear P1; rintro e w5 ⟨v0, v1, v2, v3, v4, rfl, hat, hB3⟩; obtain ⟨x0, j0, rfl, _⟩ := hat.cell.form; obtain ⟨x1, j1, rfl, _⟩ := hat.stack.form; obtain ⟨x2, j2, rfl, _⟩ := hat.queue.form; obtain ⟨x3, j3, rfl, _⟩ := hat.set.form; obtain ⟨x4, j4, rfl, _⟩ := hat.table.form; clear hat; replace hB := Mr.hid (hB.out.trans (hB3.mono hB.out.size)); clear hB3))
  go_ret
  exact ⟨rfl, hB.out.alloc hB.out.size _⟩
 | ok h1 h2 h3 h4 =>
  have M1 := RM
  rw [mayB_true h1] at M1
  replace M1 := Mr.hid M1
  have O1 := Mr.hid (RO true (by simp [h2]))
  have T1 := Mr.hid (RT h2 true (by simp [h3]))
  have P1 := Mr.hid (RP h2 true (by simp [h4]))
  clear h3 h4
  clear RM RO RT RP hv hu hsm2
  generalize cs.length = n at *
  generalize o.length = m at *
  go_enter Tryz.func24, Tryz.ntmps24
  have hB := Mr.hid trivial
  go_wp2_with (first
   | (go_at_call 11; refine (M1.out _ (Below.refl _ _)).mono ?_; clear M1; rintro e w2 ⟨rfl, hB2⟩; replace hB := Mr.hid hB2; clear hB2)
   | (go_at_call 38; refine (O1.out _ hB.out).mono ?_; clear O1; rintro e w3 ⟨rfl, hB3⟩; replace hB := Mr.hid (hB.out.trans (hB3.mono hB.out.size)); clear hB3)
   | (go_at_call 39; refine (T1.out _ hB.out).mono ?_; clear T1; rintro e w4 ⟨rfl, hB3⟩; replace hB := Mr.hid (hB.out.trans (hB3.mono hB.out.size)); clear hB3)
   | (go_at_call 40; refine (P1.out _ hB.out).mono ?_; clear P1; rintro e w5 ⟨v0, v1, v2, v3, v4, rfl, hat, hB3⟩; obtain ⟨x0, j0, rfl, _⟩ := hat.cell.form; obtain ⟨x1, j1, rfl, _⟩ := hat.stack.form; obtain ⟨x2, j2, rfl, _⟩ := hat.queue.form; obtain ⟨x3, j3, rfl, _⟩ := hat.set.form; obtain ⟨x4, j4, rfl, _⟩ := hat.table.form; clear hat; replace hB := Mr.hid (hB.out.trans (hB3.mono hB.out.size)); clear hB3))
  go_ret
  exact ⟨rfl, hB.out.alloc hB.out.size _⟩
end
end Go.Proofs.YtecldhngggkjjaaGreat.Wt
namespace Go.Proofs.YtecldhngggkjjaaGreat.Wt
open Go.RowKit Mr Md
set_option maxHeartbeats 8000000 in
theorem sameInts_eq {W : World} {S T : Nat → Prop} {u v : Value} {l : List Int} (hu : Sl W S 1 u l.length (ints l)) (hv : Sl W T 1 v l.length (ints l)) (hsm : l.length ≤ 1000000000000000) :
  Calls Tryz.prog 22 #[u, v] W fun e w' => e = .returned (.bool true) ∧ Below W.heap.size W w' := by
 obtain ⟨au, cu, rfl, hcu⟩ := hu.form
 obtain ⟨av, cv, rfl, hcv⟩ := hv.form
 obtain ⟨n, hn⟩ : ∃ n, n = l.length := ⟨_, rfl⟩
 rw [← hn] at hu hv hsm ⊢
 replace hn := Mr.hid hn
 replace hu := Mr.hid hu
 replace hv := Mr.hid hv
 have z : ((n : Int) != (n : Int)) = false := by simp
 clear hcu hcv
 go_enter Tryz.func22, Tryz.ntmps22
 go_wp2
 go_loopg [5] n (fun k s5 wr => ∃ i : Nat, s5 = .int .i64 (i : Int) ∧ i + k = n ∧ Below W.heap.size W wr)
 case atStart => exact ⟨0, rfl, by omega, Below.refl _ _⟩
 case round =>
  obtain ⟨i, rfl, hi, B⟩ := hrel
  by_cases hlt : i < n
  ·obtain ⟨x, hx⟩ : ∃ x, l[i]? = some x := ⟨l[i]'(by have := hn.out; omega), List.getElem?_eq_getElem _⟩
   obtain ⟨g1, o1, c1, e1, _, _, hl1, r1⟩ := (hu.out.below B).there (by omega)
   obtain ⟨g2, o2, c2, e2, _, _, hl2, r2⟩ := (hv.out.below B).there (by omega)
   cases e1
   cases e2
   have k1 := r1 i _ (by rw [ints, List.getElem?_map, hx]; rfl)
   have k2 := r2 i _ (by rw [ints, List.getElem?_map, hx]; rfl)
   have hlI : (i : Int) < (n : Int) := by omega
   have hw1 : IntKind.i64.wrap ((i : Int) + 1) = (i : Int) + 1 := i64x _ (by omega) (by omega)
   clear r1 r2
   replace B := Mr.hid B
   replace hx := Mr.hid hx
   go_upto_region 6 with (fail)
   go_quiet (fail)
   replace B := Mr.hid (B.out.trans (Bx.draws _ _ nq))
   clear k1 k2 hl1 hl2
   generalize wr.drewN nq = w6 at *
   go_wp2
   go_roundg (gk - 1)
   case measure => omega
   case rel => exact ⟨i + 1, by simp, by omega, B.out⟩
  ·have dl : decide ((i : Int) < (n : Int)) = false := decide_eq_false (by omega)
   replace B := Mr.hid B
   go_wp2
   go_ret
   exact ⟨rfl, B.out⟩
end Go.Proofs.YtecldhngggkjjaaGreat.Wt
