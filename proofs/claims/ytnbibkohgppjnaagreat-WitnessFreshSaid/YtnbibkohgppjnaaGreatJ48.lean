import Derived.Test.YtnbibkohgppjnaaGreatJ10
import Derived.Deep.LoopGhost
import Derived.BigQuiet
import Derived.Test.YtnbibkohgppjnaaGreatJ42
import Derived.Test.YtnbibkohgppjnaaGreatJ44
import Derived.Test.YtnbibkohgppjnaaGreatJ47
import Derived.Test.YtnbibkohgppjnaaGreatJ01
set_option linter.unusedVariables false
set_option linter.unusedSimpArgs false
set_option maxRecDepth 100000
namespace Go.Proofs.YtnbibkohgppjnaaGreat.Wt
open Go.RowKit Mr Md
set_option maxHeartbeats 8000000 in
theorem has_any {W : World} {T : Nat → Prop} {u : Value} {l : List Int} (hu : Sl W T 1 u l.length (ints l)) (hso : l.length * 8 ≤ 281474976710656) (x : Int) :
  Calls Tryz.prog 54 #[u, .int .i64 x] W fun e w' => e = .returned (.bool (decide (x ∈ l))) ∧ Below W.heap.size W w' := by
 obtain ⟨b, hb⟩ : ∃ b, b = decide (x ∈ l) := ⟨_, rfl⟩
 rw [← hb]
 replace hb : Hid (b = true ↔ x ∈ l) := by rw [hb]; exact decide_eq_true_iff
 obtain ⟨au, cu, rfl, hcu⟩ := hu.form
 obtain ⟨n, hn⟩ : ∃ n, n = l.length := ⟨_, rfl⟩
 rw [← hn] at hu hso ⊢
 replace hn := Mr.hid hn
 replace hu := Mr.hid hu
 clear hcu
 go_enter Tryz.func54, Tryz.ntmps54
 go_wp2
 go_loopg [5] n (fun k s5 wr => ∃ i : Nat, s5 = .int .i64 (i : Int) ∧ i + k = n ∧ Below W.heap.size W wr ∧ ∀ j, j < i → l[j]? ≠ some x)
 case atStart => exact ⟨0, rfl, by omega, Below.refl _ _, fun j hj => by omega⟩
 case round =>
  obtain ⟨i, rfl, hi, B, ht⟩ := hrel
  by_cases hlt : i < n
  ·obtain ⟨y, hy⟩ : ∃ y, l[i]? = some y := ⟨l[i]'(by have := hn.out; omega), List.getElem?_eq_getElem _⟩
   obtain ⟨g1, o1, c1, e1, _, _, hl1, r1⟩ := (hu.out.below B).there (by omega)
   cases e1
   have k1 := r1 i _ (by rw [ints, List.getElem?_map, hy]; rfl)
   have hlI : (i : Int) < (n : Int) := by omega
   have hw1 : IntKind.i64.wrap ((i : Int) + 1) = (i : Int) + 1 := i64x _ (by omega) (by omega)
   clear r1
   replace B := Mr.hid B
   by_cases he : y = x
   ·have hbt : b = true := hb.out.2 (by rw [← he]; exact List.mem_of_getElem? hy)
    have he2 : (y == x) = true := by simp [he]
    subst hbt
    replace he := Mr.hid he
    replace hy := Mr.hid hy
    replace ht := Mr.hid ht
    go_wp2
    go_ret
    exact ⟨rfl, B.out⟩
   ·have he2 : (y == x) = false := by simp [he]
    have hn2 := Mr.hid (fun j (hj : j < i + 1) => (by
     by_cases hji : j < i
     ·exact ht j hji
     ·have : j = i := by omega
      subst this; rw [hy]; exact fun e => he (Option.some.inj e) : l[j]? ≠ some x))
    replace he := Mr.hid he
    replace hy := Mr.hid hy
    replace ht := Mr.hid ht
    go_wp2
    go_roundg (gk - 1)
    case measure => omega
    case rel => exact ⟨i + 1, by simp, by omega, B.out, hn2.out⟩
  ·have hbf : b = false := by
    cases hbb : b with
    | false => rfl
    | true =>
     obtain ⟨j, hj⟩ := List.getElem?_of_mem (hb.out.1 hbb)
     exact absurd hj (ht j (by have := (List.getElem?_eq_some_iff.1 hj).1; have := hn.out; omega))
   subst hbf
   have dl : decide ((i : Int) < (n : Int)) = false := decide_eq_false (by omega)
   replace B := Mr.hid B
   replace ht := Mr.hid ht
   go_wp2
   go_ret
   exact ⟨rfl, B.out⟩
end Go.Proofs.YtnbibkohgppjnaaGreat.Wt
namespace Go.Proofs.YtnbibkohgppjnaaGreat.Wt
open Go.RowKit Mr Md
section
variable {W : World} {T T' : Nat → Prop} {v u : Value} {cs : List Cq} {o : List Int}
end
end Go.Proofs.YtnbibkohgppjnaaGreat.Wt
namespace Go.Proofs.YtnbibkohgppjnaaGreat.Wt
open Go.RowKit Mr Md
section
variable {W : World} {T T' T'' : Nat → Prop} {v u l : Value} {cs : List Cq} {o : List Int} {code : Int} {x : Ct}
set_option maxHeartbeats 16000000 in
theorem check_any (h : Rs cs o code x) (hv : Sl W T 9 v cs.length (cqs cs)) (hu : Sl W T' 1 u o.length (ints o)) (hsm : cs.length * 72 ≤ 140737488355328) (hso : o.length * 8 ≤ 281474976710656) :
  Calls Tryz.prog 21 #[v, u] W fun e w' => e = .returned (.int .i64 code) ∧ Below W.heap.size W w' := by
 have LF := left_any h hv hu hsm hso
 obtain ⟨a, cap, rfl, hcap⟩ := hv.form
 obtain ⟨au, cu, rfl, hcu⟩ := hu.form
 generalize cs.length = n at *
 generalize o.length = m at *
 replace LF := Mr.hid LF
 clear hv hu h
 go_enter Tryz.func21, Tryz.ntmps21
 go_wp2_with (go_at_call 39; refine LF.out.mono ?_; clear LF; rintro e w2 ⟨v0, v1, v2, v3, v4, rfl, hat, hB2⟩; obtain ⟨x0, j0, rfl, _⟩ := hat.cell.form; obtain ⟨x1, j1, rfl, _⟩ := hat.stack.form; obtain ⟨x2, j2, rfl, _⟩ := hat.queue.form; obtain ⟨x3, j3, rfl, _⟩ := hat.set.form; obtain ⟨x4, j4, rfl, _⟩ := hat.table.form; clear hat; replace hB2 := Mr.hid hB2)
 go_ret
 exact ⟨rfl, hB2.out.alloc hB2.out.size _⟩
end
end Go.Proofs.YtnbibkohgppjnaaGreat.Wt
namespace Go.Proofs.YtnbibkohgppjnaaGreat.Wt
open Go.RowKit Mr Md
set_option maxHeartbeats 8000000 in
theorem sameInts_eq {W : World} {S T : Nat → Prop} {u v : Value} {l : List Int} (hu : Sl W S 1 u l.length (ints l)) (hv : Sl W T 1 v l.length (ints l)) (hsm : l.length ≤ 1000000000000000) :
  Calls Tryz.prog 8 #[u, v] W fun e w' => e = .returned (.bool true) ∧ Below W.heap.size W w' := by
 obtain ⟨au, cu, rfl, hcu⟩ := hu.form
 obtain ⟨av, cv, rfl, hcv⟩ := hv.form
 obtain ⟨n, hn⟩ : ∃ n, n = l.length := ⟨_, rfl⟩
 rw [← hn] at hu hv hsm ⊢
 replace hn := Mr.hid hn
 replace hu := Mr.hid hu
 replace hv := Mr.hid hv
 have z : ((n : Int) != (n : Int)) = false := by simp
 clear hcu hcv
 go_enter Tryz.func8, Tryz.ntmps8
 go_wp2
 go_loopg [5] n (fun k s5 wr => ∃ i : Nat, s5 = .int .i64 (i : Int) ∧ i + k = n ∧ Below W.heap.size W wr)
 case atStart => exact ⟨0, rfl, by omega, Below.refl _ _⟩
 case round =>
  obtain ⟨i, rfl, hi, B⟩ := hrel
  by_cases hlt : i < n
  ·obtain ⟨x, hx⟩ : ∃ x, l[i]? = some x := ⟨l[i]'(by have := hn.out; omega), List.getElem?_eq_getElem _⟩
   obtain ⟨g1, o1, c1, e1, _, _, hl1, r1⟩ := (hu.out.below B).there (by omega)
   obtain ⟨g2, o2, c2, e2, _, _, hl2, r2⟩ := (hv.out.below B).there (by omega)
   cases e1
   cases e2
   have k1 := r1 i _ (by rw [ints, List.getElem?_map, hx]; rfl)
   have k2 := r2 i _ (by rw [ints, List.getElem?_map, hx]; rfl)
   have hlI : (i : Int) < (n : Int) := by omega
   have hw1 : IntKind.i64.wrap ((i : Int) + 1) = (i : Int) + 1 := i64x _ (by omega) (by omega)
   clear r1 r2
   replace B := Mr.hid B
   replace hx := Mr.hid hx
   go_upto_region 6 with (fail)
   go_quiet (fail)
   replace B := Mr.hid (B.out.trans (Bx.draws _ _ nq))
   clear k1 k2 hl1 hl2
   generalize wr.drewN nq = w6 at *
   go_wp2
   go_roundg (gk - 1)
   case measure => omega
   case rel => exact ⟨i + 1, by simp, by omega, B.out⟩
  ·have dl : decide ((i : Int) < (n : Int)) = false := decide_eq_false (by omega)
   replace B := Mr.hid B
   go_wp2
   go_ret
   exact ⟨rfl, B.out⟩
end Go.Proofs.YtnbibkohgppjnaaGreat.Wt
