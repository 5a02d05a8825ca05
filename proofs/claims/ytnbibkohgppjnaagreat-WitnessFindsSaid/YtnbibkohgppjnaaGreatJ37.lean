import Derived.Test.YtnbibkohgppjnaaGreatJ36
import Derived.Test.YtnbibkohgppjnaaGreatJ13
import Derived.Deep.LoopGhost
import Derived.BigQuiet
import Derived.Deep.RegionHeld3
import Derived.Test.YtnbibkohgppjnaaGreatJ10
set_option linter.unusedVariables false
set_option linter.unusedSimpArgs false
set_option maxRecDepth 100000
namespace Go.Proofs.YtnbibkohgppjnaaGreat.Ws
open Md Wt
section
variable {X : Type}
def Sp.gall (s : Sp X) : Nat → Nat → X → List (List Nat)
 | 0, P, _ => if s.whl P then [[]] else []
 | f + 1, P, x => (if s.whl P then [[]] else []) ++ (List.range s.n).flatMap (fun i => if s.ok P x i then (s.gall f (P ||| 2 ^ i) (s.nx x i)).map (i :: ·) else [])
theorem Sp.gall_len (s : Sp X) : ∀ (f P : Nat) (x : X), (s.gall f P x).length = s.cnt f P x := by
 intro f
 induction f with
 | zero => intro P x; unfold Sp.gall Sp.cnt; split <;> rfl
 | succ f ih =>
  intro P x
  unfold Sp.gall Sp.cnt
  rw [List.length_append, List.length_flatMap]
  congr 1
  ·split <;> rfl
  ·congr 1
   apply List.map_congr_left
   intro i _
   split
   ·rw [List.length_map, ih]
   ·rfl
theorem Sp.gall_head (s : Sp X) : ∀ (f P : Nat) (x : X), (s.gall f P x).head? = s.lst f P x := by
 intro f
 induction f with
 | zero => intro P x; unfold Sp.gall Sp.lst; split <;> rfl
 | succ f ih =>
  intro P x
  unfold Sp.gall Sp.lst
  split
  ·rfl
  ·rw [List.nil_append, List.head?_flatMap]
   congr 1
   funext i
   split
   ·rw [List.head?_map, ih]
   ·rfl
end
def nxB (cs : List Cq) (o : List Nat) (n : Nat) : Bool := (obj (cd cs n).op != 0) && !(decide (n ∈ o)) && o.all (fun i => !(ahB (cd cs n) (cd cs i)))
def natI (o : List Nat) : List Int := o.map (fun n : Nat => (n : Int))
open Classical in
noncomputable def isB (cs : List Cq) (o : List Nat) : Bool := decide (IsOrd cs (natI o))
theorem isB_iff {cs : List Cq} {o : List Nat} : isB cs o = true ↔ IsOrd cs (natI o) := by simp [isB]
noncomputable def alls (cs : List Cq) : Nat → Ct → List Nat → List (List Nat)
 | 0, _, o => if isB cs o then [o] else []
 | f + 1, x, o => (if isB cs o then [o] else []) ++ (List.range cs.length).flatMap (fun n => if nxB cs o n && (alw x (cd cs n)).2 then alls cs f (alw x (cd cs n)).1 (o ++ [n]) else [])
theorem mem_natI {o : List Nat} {n : Nat} : ((n : Int) ∈ natI o) ↔ n ∈ o := by
 unfold natI
 rw [List.mem_map]
 constructor
 ·rintro ⟨k, hk, e⟩
  have : k = n := by omega
  exact this ▸ hk
 ·intro h; exact ⟨n, h, rfl⟩
theorem ah_B {c d : Cq} : ahB c d = true ↔ AhP c d := by
 constructor
 ·intro h; simp [ahB] at h; exact ⟨h.1, h.2⟩
 ·rintro ⟨a1, a2⟩; simp [ahB, a1, a2]
theorem flat_nil {α : Type} (l : List Nat) (g : Nat → List α) (h : ∀ n ∈ l, g n = []) : l.flatMap g = [] := by
 rw [List.flatMap_eq_nil_iff]; exact h
theorem vain {cs : List Cq} : ∀ (f : Nat) (x : Ct) (o : List Nat) (k i : Nat), i ∈ o → k ∉ o → k < cs.length → obj (cd cs k).op ≠ 0 → AhP (cd cs k) (cd cs i) → alls cs f x o = [] := by
 have hno : ∀ (o : List Nat) (k i : Nat), i ∈ o → k ∉ o → k < cs.length → obj (cd cs k).op ≠ 0 → AhP (cd cs k) (cd cs i) → isB cs o = false := by
  intro o k i hi hk hl ho hA
  cases hq : isB cs o with
  | false => rfl
  | true =>
   have h := (isB_iff.1 hq).2 k (cd cs k) hl (by unfold cd; rw [List.getElem?_eq_getElem hl]; rfl) ho hA.1
   exact absurd (mem_natI.1 h) hk
 intro f
 induction f with
 | zero =>
  intro x o k i hi hk hl ho hA
  unfold alls
  rw [hno o k i hi hk hl ho hA]
  rfl
 | succ f ih =>
  intro x o k i hi hk hl ho hA
  unfold alls
  rw [hno o k i hi hk hl ho hA]
  show [] ++ _ = []
  rw [List.nil_append]
  refine flat_nil _ _ (fun n _ => ?_)
  split
  ·rename_i hn
   rw [Bool.and_eq_true] at hn
   have hnx := hn.1
   unfold nxB at hnx
   rw [Bool.and_eq_true, List.all_eq_true] at hnx
   have hne : n ≠ k := by
    rintro rfl
    have := hnx.2 i hi
    rw [ah_B.2 hA] at this
    cases this
   refine ih _ _ k i (List.mem_append.2 (.inl hi)) ?_ hl ho hA
   intro hm
   rcases List.mem_append.1 hm with h | h
   ·exact hk h
   ·simp at h; exact hne h.symm
  ·rfl
theorem flat_cnt {α : Type} (g : Nat → List α) : ∀ (cs : List Cq) (n : Nat), (∀ i c, cs[i]? = some c → obj c.op = 0 → g (n + i) = []) → (List.range' n cs.length).flatMap g = ((cnt1 cs n).map (·.1)).flatMap g := by
 intro cs
 induction cs with
 | nil => intro n _; rfl
 | cons c cs ih =>
  intro n h
  rw [List.length_cons, List.range'_succ, List.flatMap_cons, cnt1, List.map_append, List.flatMap_append]
  rw [ih (n + 1) (fun i d hd ho => by have := h (i + 1) d (by simpa using hd) ho; rw [show n + 1 + i = n + (i + 1) by omega]; exact this)]
  congr 1
  by_cases ho : obj c.op = 0
  ·have := h 0 c (by simp) ho
   rw [Nat.add_zero] at this
   simp [ho, this]
  ·simp [ho]
theorem flat_at {α : Type} (g : Nat → List α) (l : List Nat) : l.flatMap g = (List.range l.length).flatMap (fun i => g (nd l i)) := by
 have : l = (List.range l.length).map (nd l) := by
  apply List.ext_getElem (by simp)
  intro i h1 h2
  simp [nd, h1]
 conv => lhs; rw [this]
 rw [List.flatMap_map]
theorem cd_nd {cs : List Cq} {i : Nat} (h : i < (scs cs).length) : cd cs (nd (nms cs) i) = cd (scs cs) i ∧ nd (nms cs) i < cs.length ∧ obj (cd (scs cs) i).op ≠ 0 := by
 obtain ⟨h1, h2⟩ := at_i (cs := cs) (i := i) (by rw [← scs_len]; exact h)
 refine ⟨?_, (List.getElem?_eq_some_iff.1 h1).1, h2⟩
 unfold cd at h1 ⊢
 rw [h1]; rfl
theorem mem_nd {cs : List Cq} {p : List Nat} (hp : ∀ i ∈ p, i < (scs cs).length) {i : Nat} (hi : i < (scs cs).length) : nd (nms cs) i ∈ p.map (nd (nms cs)) ↔ i ∈ p := by
 rw [List.mem_map]
 constructor
 ·rintro ⟨j, hj, e⟩
  have := nd_inj (cs := cs) (by rw [← scs_len]; exact hp j hj) (by rw [← scs_len]; exact hi) e
  exact this ▸ hj
 ·intro h; exact ⟨i, h, rfl⟩
theorem isB_whl {cs : List Cq} {p : List Nat} (hn : p.Nodup) (hp : ∀ i ∈ p, i < (scs cs).length) : isB cs (p.map (nd (nms cs))) = whlB (scs cs) (msk p) := by
 rw [Bool.eq_iff_iff, isB_iff]
 unfold whlB
 rw [List.all_eq_true]
 constructor
 ·intro h i hi
  have hi' := List.mem_range.1 hi
  obtain ⟨e1, e2, e3⟩ := cd_nd hi'
  rw [msk_test]
  by_cases hf : (cd (scs cs) i).fin = -1
  ·simp [hf]
  ·have := h.2 (nd (nms cs) i) (cd cs (nd (nms cs) i)) e2 (by unfold cd; rw [List.getElem?_eq_getElem e2]; rfl) (by rw [e1]; exact e3) (by rw [e1]; exact hf)
   have := (mem_nd hp hi').1 (mem_natI.1 this)
   simp [this]
 ·intro h
  refine ⟨⟨fun j x hj hx => ?_, ?_⟩, fun k c hk hc ho hf => ?_⟩
  ·rw [natI, List.map_map, List.getElem?_map] at hx
   cases hq : p[j]? with
   | none => rw [hq] at hx; cases hx
   | some i =>
    rw [hq] at hx
    cases hx
    obtain ⟨h1, h2⟩ := at_i (cs := cs) (i := i) (by rw [← scs_len]; exact hp i (List.mem_of_getElem? hq))
    exact ⟨Int.natCast_nonneg _, _, by simpa using h1, h2⟩
  ·rw [List.take_length, natI, List.map_map]
   refine nodup_map hn (fun a ha b hb e => ?_)
   exact nd_inj (cs := cs) (by rw [← scs_len]; exact hp a ha) (by rw [← scs_len]; exact hp b hb) (Int.ofNat.inj e)
  ·obtain ⟨i, hi, h1, h2⟩ := of_num hc ho
   have hi' : i < (scs cs).length := by rw [scs_len]; exact hi
   have := h i (List.mem_range.2 hi')
   rw [msk_test, h2] at this
   have hm : i ∈ p := by simpa [hf] using this
   rw [mem_natI, ← h1]
   exact (mem_nd hp hi').2 hm
theorem alls_gall {cs : List Cq} (hfit : ∀ c ∈ scs cs, Fit c) : ∀ (f : Nat) (x : Ct) (p : List Nat), p.Nodup → (∀ i ∈ p, i < (scs cs).length) → (∀ i ∈ p, ∀ k, k < (scs cs).length → AhP (cd (scs cs) k) (cd (scs cs) i) → k ∈ p) →
  alls cs f x (p.map (nd (nms cs))) = ((spc (scs cs)).gall f (msk p) x).map (fun l => (p ++ l).map (nd (nms cs))) := by
 have hirr : ∀ i, i < (scs cs).length → ¬ AhP (cd (scs cs) i) (cd (scs cs) i) := by
  intro i hi h
  have hm : cd (scs cs) i ∈ scs cs := by unfold cd; rw [List.getElem?_eq_getElem hi]; exact List.getElem_mem hi
  obtain ⟨_, _, ⟨_, h2, _⟩, _⟩ := hfit _ hm
  obtain ⟨h3, h4⟩ := h
  rcases h2 with h2 | h2
  ·exact h3 h2
  ·omega
 intro f
 induction f with
 | zero =>
  intro x p h1 h2 h3
  unfold alls Sp.gall
  rw [isB_whl h1 h2]
  show _ = (if whlB (scs cs) (msk p) = true then [[]] else []).map _
  split <;> simp
 | succ f ih =>
  intro x p h1 h2 h3
  unfold alls Sp.gall
  rw [isB_whl h1 h2, List.map_append]
  congr 1
  ·show _ = (if whlB (scs cs) (msk p) = true then [[]] else []).map _
   split <;> simp
  ·rw [List.map_flatMap, List.range_eq_range', flat_cnt _ cs 0 ?_]
   ·show (nms cs).flatMap _ = _
    rw [flat_at, ← scs_len]
    show (List.range (scs cs).length).flatMap _ = (List.range (scs cs).length).flatMap _
    rw [List.flatMap_def, List.flatMap_def]
    congr 1
    apply List.map_congr_left
    intro i hi
    have hi := List.mem_range.1 hi
    obtain ⟨e1, e2, e3⟩ := cd_nd hi
    rw [e1]
    show _ = (if (!(msk p).testBit i && ahmB (scs cs) (msk p) i && (alw x (cd (scs cs) i)).2) = true then _ else []).map _
    have hmm := mem_nd h2 hi
    by_cases hip : i ∈ p
    ·have hx1 : nxB cs (p.map (nd (nms cs))) (nd (nms cs) i) = false := by
      unfold nxB
      rw [decide_eq_true (hmm.2 hip)]
      simp
     rw [hx1, msk_test, decide_eq_true hip]
     rfl
    ·have hx1 : nxB cs (p.map (nd (nms cs))) (nd (nms cs) i) = true := by
      unfold nxB
      rw [decide_eq_false (fun h => hip (hmm.1 h)), e1]
      simp only [Bool.not_false, Bool.and_true, Bool.and_eq_true, bne_iff_ne, ne_eq, List.all_eq_true]
      refine ⟨e3, fun n hn => ?_⟩
      obtain ⟨j, hj, rfl⟩ := List.mem_map.1 hn
      rw [(cd_nd (h2 j hj)).1]
      cases hq : ahB (cd (scs cs) i) (cd (scs cs) j) with
      | false => rfl
      | true => exact absurd (h3 j hj i hi (ah_B.1 hq)) hip
     rw [hx1, msk_test, decide_eq_false hip]
     cases hal : (alw x (cd (scs cs) i)).2 with
     | false => simp
     | true =>
      cases ham : ahmB (scs cs) (msk p) i with
      | true =>
       have hcl : ∀ k, k < (scs cs).length → AhP (cd (scs cs) k) (cd (scs cs) i) → k ∈ p := by
        intro k hk hA
        have := List.all_eq_true.1 ham k (List.mem_range.2 hk)
        rw [msk_test, ah_B.2 hA] at this
        simpa using this
       have := ih (alw x (cd (scs cs) i)).1 (p ++ [i]) ?_ ?_ ?_
       ·rw [List.map_append, List.map_cons, List.map_nil, msk_snoc] at this
        simp only [Bool.true_and, Bool.and_true, Bool.not_false, if_true]
        rw [this, List.map_map]
        apply List.map_congr_left
        intro l _
        simp
       ·exact List.nodup_append.2 ⟨h1, by simp, fun a ha b hb => by simp at hb; subst hb; exact fun e => hip (e ▸ ha)⟩
       ·intro j hj
        rcases List.mem_append.1 hj with h | h
        ·exact h2 j h
        ·simp at h; subst h; exact hi
       ·intro a ha k hk hA
        rcases List.mem_append.1 ha with h | h
        ·exact List.mem_append.2 (.inl (h3 a h k hk hA))
        ·simp at h; subst h; exact List.mem_append.2 (.inl (hcl k hk hA))
      | false =>
       have hex : ∃ k, k < (scs cs).length ∧ AhP (cd (scs cs) k) (cd (scs cs) i) ∧ k ∉ p := by
        unfold ahmB at ham
        rw [List.all_eq_false] at ham
        obtain ⟨k, hk, hb⟩ := ham
        rw [msk_test] at hb
        simp only [Bool.or_eq_true, Bool.not_eq_true', decide_eq_true_eq, not_or, Bool.not_eq_false] at hb
        exact ⟨k, List.mem_range.1 hk, ah_B.1 hb.1, hb.2⟩
       obtain ⟨k, hk, hA, hkp⟩ := hex
       obtain ⟨k1, k2, k3⟩ := cd_nd hk
       have hki : k ≠ i := by rintro rfl; exact hirr k hk hA
       have := vain f (alw x (cd (scs cs) i)).1 (p.map (nd (nms cs)) ++ [nd (nms cs) i]) (nd (nms cs) k) (nd (nms cs) i) (by simp) ?_ k2 (by rw [k1]; exact k3) (by rw [k1, e1]; exact hA)
       ·simp [this]
       ·intro hm
        rcases List.mem_append.1 hm with h | h
        ·exact hkp ((mem_nd h2 hk).1 h)
        ·simp at h
         exact hki (nd_inj (cs := cs) (by rw [← scs_len]; exact hk) (by rw [← scs_len]; exact hi) h)
   ·intro i c hc ho
    rw [Nat.zero_add]
    have : cd cs i = c := by unfold cd; rw [hc]; rfl
    have hx1 : nxB cs (p.map (nd (nms cs))) i = false := by
     unfold nxB
     rw [this, ho]
     rfl
    rw [hx1]
    rfl
theorem alls_cnt {cs : List Cq} (hfit : ∀ c ∈ scs cs, Fit c) : (alls cs (scs cs).length ct0 []).length = (spc (scs cs)).num 0 ct0 := by
 have := alls_gall hfit (scs cs).length ct0 [] (by simp) (by simp) (by simp)
 simp only [List.map_nil] at this
 rw [this, List.length_map, Sp.gall_len]
 rfl
theorem alls_lst {cs : List Cq} (hfit : ∀ c ∈ scs cs, Fit c) : (alls cs (scs cs).length ct0 []).head? = ((spc (scs cs)).lm 0 ct0).map (fun l => l.map (nd (nms cs))) := by
 have := alls_gall hfit (scs cs).length ct0 [] (by simp) (by simp) (by simp)
 simp only [List.map_nil, List.nil_append] at this
 rw [this, List.head?_map, Sp.gall_head]
 rfl
end Go.Proofs.YtnbibkohgppjnaaGreat.Ws
namespace Go.Proofs.YtnbibkohgppjnaaGreat.Wt
open Go.RowKit Mr Md
set_option maxHeartbeats 8000000 in
theorem has_any {W : World} {T : Nat → Prop} {u : Value} {l : List Int} (hu : Sl W T 1 u l.length (ints l)) (hso : l.length * 8 ≤ 281474976710656) (x : Int) :
  Calls Tryz.prog 54 #[u, .int .i64 x] W fun e w' => e = .returned (.bool (decide (x ∈ l))) ∧ Below W.heap.size W w' := by
 obtain ⟨b, hb⟩ : ∃ b, b = decide (x ∈ l) := ⟨_, rfl⟩
 rw [← hb]
 replace hb : Hid (b = true ↔ x ∈ l) := by rw [hb]; exact decide_eq_true_iff
 obtain ⟨au, cu, rfl, hcu⟩ := hu.form
 obtain ⟨n, hn⟩ : ∃ n, n = l.length := ⟨_, rfl⟩
 rw [← hn] at hu hso ⊢
 replace hn := Mr.hid hn
 replace hu := Mr.hid hu
 clear hcu
 go_enter Tryz.func54, Tryz.ntmps54
 go_wp2
 go_loopg [5] n (fun k s5 wr => ∃ i : Nat, s5 = .int .i64 (i : Int) ∧ i + k = n ∧ Below W.heap.size W wr ∧ ∀ j, j < i → l[j]? ≠ some x)
 case atStart => exact ⟨0, rfl, by omega, Below.refl _ _, fun j hj => by omega⟩
 case round =>
  obtain ⟨i, rfl, hi, B, ht⟩ := hrel
  by_cases hlt : i < n
  ·obtain ⟨y, hy⟩ : ∃ y, l[i]? = some y := ⟨l[i]'(by have := hn.out; omega), List.getElem?_eq_getElem _⟩
   obtain ⟨g1, o1, c1, e1, _, _, hl1, r1⟩ := (hu.out.below B).there (by omega)
   cases e1
   have k1 := r1 i _ (by rw [ints, List.getElem?_map, hy]; rfl)
   have hlI : (i : Int) < (n : Int) := by omega
   have hw1 : IntKind.i64.wrap ((i : Int) + 1) = (i : Int) + 1 := i64x _ (by omega) (by omega)
   clear r1
   replace B := Mr.hid B
   by_cases he : y = x
   ·have hbt : b = true := hb.out.2 (by rw [← he]; exact List.mem_of_getElem? hy)
    have he2 : (y == x) = true := by simp [he]
    subst hbt
    replace he := Mr.hid he
    replace hy := Mr.hid hy
    replace ht := Mr.hid ht
    go_wp2
    go_ret
    exact ⟨rfl, B.out⟩
   ·have he2 : (y == x) = false := by simp [he]
    have hn2 := Mr.hid (fun j (hj : j < i + 1) => (by
     by_cases hji : j < i
     ·exact ht j hji
     ·have : j = i := by omega
      subst this; rw [hy]; exact fun e => he (Option.some.inj e) : l[j]? ≠ some x))
    replace he := Mr.hid he
    replace hy := Mr.hid hy
    replace ht := Mr.hid ht
    go_wp2
    go_roundg (gk - 1)
    case measure => omega
    case rel => exact ⟨i + 1, by simp, by omega, B.out, hn2.out⟩
  ·have hbf : b = false := by
    cases hbb : b with
    | false => rfl
    | true =>
     obtain ⟨j, hj⟩ := List.getElem?_of_mem (hb.out.1 hbb)
     exact absurd hj (ht j (by have := (List.getElem?_eq_some_iff.1 hj).1; have := hn.out; omega))
   subst hbf
   have dl : decide ((i : Int) < (n : Int)) = false := decide_eq_false (by omega)
   replace B := Mr.hid B
   replace ht := Mr.hid ht
   go_wp2
   go_ret
   exact ⟨rfl, B.out⟩
theorem sl_takeI {W : World} {T : Nat → Prop} {a : Option Addr} {cap : Nat} {l : List Int} (h : Sl W T 1 (.slice a l.length cap) l.length (ints l)) {k : Nat} (hk : k ≤ l.length) : Sl W T 1 (.slice a k cap) (l.take k).length (ints (l.take k)) := by
 have e : (l.take k).length = k := by simp; omega
 obtain ⟨h1, a', cap', hv, hc, h2⟩ := h
 cases hv
 refine ⟨by simp [ints], _, cap, by rw [e], by rw [e]; omega, ?_⟩
 rcases h2 with h2 | ⟨b, o, ha, hT, hl, hr⟩
 ·exact .inl (by rw [e]; omega)
 ·refine .inr ⟨b, o, ha, hT, hl, fun j u hu => hr j u ?_⟩
  rw [show ints (l.take k) = (ints l).take k from by simp [ints, List.map_take], List.getElem?_take] at hu
  split at hu
  ·exact hu
  ·cases hu
end Go.Proofs.YtnbibkohgppjnaaGreat.Wt
namespace Go.Proofs.YtnbibkohgppjnaaGreat.Wt
open Go.RowKit Mr Md
set_option maxHeartbeats 4000000 in
theorem isNumber_any (a : Option Addr) (n cap : Nat) (i : Int) (w : World) : Calls Tryz.prog 81 #[.slice a n cap, .int .i64 i] w fun e w' => e = .returned (.bool (decide (0 ≤ i ∧ i < (n : Int)))) ∧ w = w' := by
 obtain ⟨b, hb⟩ : ∃ b, b = decide (0 ≤ i ∧ i < (n : Int)) := ⟨_, rfl⟩
 rw [← hb]
 replace hb : Hid (b = true ↔ 0 ≤ i ∧ i < (n : Int)) := by rw [hb]; exact decide_eq_true_iff
 go_enter Tryz.func81, Tryz.ntmps81
 go_wp2
 all_goals
  go_ret
  refine ⟨ret_bool ?_, rfl⟩
  rw [Bool.eq_iff_iff, hb.out]
  clear hb
  simp at *
  try omega
set_option maxHeartbeats 4000000 in
theorem num_any (e : Int) (w : World) : Calls Tryz.prog 9 #[.int .i64 e] w fun x w' => x = .returned (.int .i64 e) ∧ w = w' := by
 go_enter Tryz.func9, Tryz.ntmps9
 go_wp2
 go_ret
 exact ⟨rfl, rfl⟩
section
variable {W : World} {T : Nat → Prop} {v : Value} {cs : List Cq}
set_option maxHeartbeats 8000000 in
theorem rAhead_any (hv : Sl W T 9 v cs.length (cqs cs)) (hsm : cs.length * 72 ≤ 281474976710656) {i j : Nat} {c d : Cq} (hc : cs[i]? = some c) (hd : cs[j]? = some d) :
  Calls Tryz.prog 55 #[v, .int .i64 (i : Int), .int .i64 (j : Int)] W fun e w' => e = .returned (.bool (ahB c d)) ∧ Below W.heap.size W w' := by
 have hi := (List.getElem?_eq_some_iff.1 hc).1
 have hj := (List.getElem?_eq_some_iff.1 hd).1
 obtain ⟨a, cap, rfl, hcap⟩ := hv.form
 obtain ⟨bc, oc, rfl, ⟨hbl, g0, g1, g2, g3, g4, g5, g6, g7, g8⟩⟩ := call_at hv hc
 obtain ⟨b2, o2, e2, ⟨-, k0, k1, k2, k3, k4, k5, k6, k7, k8⟩⟩ := call_at hv hd
 cases e2
 obtain ⟨n, hn⟩ : ∃ n, n = cs.length := ⟨_, rfl⟩
 rw [← hn] at hi hj hsm ⊢
 have f1 : (i : Int) < (n : Int) := by omega
 have f2 : (j : Int) < (n : Int) := by omega
 clear hv hn hc hd hcap g0 g1 g2 g3 g4 g6 g7 g8 k0 k1 k2 k3 k5 k6 k7 k8
 by_cases h : c.fin = -1
 ·have h2 : (c.fin != -1) = false := by simp [h]
  have hq : ahB c d = false := by simp [ahB, h]
  rw [hq]
  replace h := Mr.hid h
  go_enter Tryz.func55, Tryz.ntmps55
  go_upto_region 1 with (fail)
  go_quiet (fail)
  go_wp2
  go_ret
  exact ⟨rfl, Bx.draws _ _ nq⟩
 ·have h2 : (c.fin != -1) = true := by simp [h]
  obtain ⟨q, hq2⟩ : ∃ q, q = decide (c.fin < d.beg) := ⟨_, rfl⟩
  have hq : ahB c d = q := by rw [hq2]; simp [ahB, h]
  rw [hq]
  replace h := Mr.hid h
  go_enter Tryz.func55, Tryz.ntmps55
  go_upto_region 1 with (fail)
  go_quiet (fail)
  go_wp2
  go_ret
  exact ⟨ret_bool hq2.symm, Bx.draws _ _ nq⟩
end
end Go.Proofs.YtnbibkohgppjnaaGreat.Wt
namespace Go.Proofs.YtnbibkohgppjnaaGreat.Ws
open Go.RowKit Mr Md Wt
theorem natI_len (o : List Nat) : (natI o).length = o.length := by simp [natI]
theorem natI_at {o : List Nat} {i a : Nat} (h : o[i]? = some a) : (ints (natI o))[i]? = some (.int .i64 (a : Int)) := by simp [ints, natI, h]
theorem cd_get {cs : List Cq} {i : Nat} {c : Cq} (h : cs[i]? = some c) : cd cs i = c := by unfold cd; rw [h]; rfl
set_option maxHeartbeats 8000000 in
theorem rnext_any {W : World} {T T' : Nat → Prop} {v u : Value} {cs : List Cq} {o : List Nat} (hv : Sl W T 9 v cs.length (cqs cs)) (hu : Sl W T' 1 u o.length (ints (natI o))) (hsm : cs.length * 72 ≤ 281474976710656) (hso : o.length * 8 ≤ 281474976710656) (hoo : ∀ i ∈ o, i < cs.length) {p : Nat} (hp : p < cs.length) :
  Calls Tryz.prog 37 #[v, u, .int .i64 (p : Int)] W fun e w' => e = .returned (.bool (nxB cs o p)) ∧ Below W.heap.size W w' := by
 obtain ⟨c, hcp⟩ := get_of_lt (cs := cs) hp
 have hcd := cd_get hcp
 obtain ⟨b, hb⟩ : ∃ b, b = nxB cs o p := ⟨_, rfl⟩
 rw [← hb]
 have hbI : Hid (b = true ↔ (obj c.op ≠ 0 ∧ p ∉ o) ∧ ∀ i ∈ o, ahB c (cd cs i) = false) := by
  show b = true ↔ _
  rw [hb]; unfold nxB; rw [hcd]; simp
 have HA := fun w' (hB : Below W.heap.size W w') => Wt.has_any (l := natI o) (by rw [natI_len]; exact hu.below hB) (by rw [natI_len]; exact hso) (p : Int)
 have hmI : decide ((p : Int) ∈ natI o) = decide (p ∈ o) := by rw [decide_eq_decide]; exact mem_natI
 rw [hmI] at HA
 have RA := fun w' (hB : Below W.heap.size W w') j d hd => rAhead_any (hv.below hB) hsm (i := p) (j := j) (c := c) (d := d) hcp hd
 have CT := fun w => rCounts_any c w
 unfold Cq.val at CT
 obtain ⟨a, cap, rfl, hcap⟩ := hv.form
 obtain ⟨au, cu, rfl, hcu⟩ := hu.form
 obtain ⟨bc, oc, rfl, A9⟩ := call_at hv hcp
 obtain ⟨hbl, g0, g1, g2, g3, g4, g5, g6, g7, g8⟩ := A9
 obtain ⟨n, hn⟩ : ∃ n, n = cs.length := ⟨_, rfl⟩
 obtain ⟨m, hm⟩ : ∃ m, m = o.length := ⟨_, rfl⟩
 rw [← hn] at hsm hcap RA hp ⊢
 rw [← hm] at hso hcu HA hu ⊢
 have f1 : (p : Int) < (n : Int) := by omega
 have f0 : (0 : Int) ≤ (p : Int) := by omega
 replace hn := Mr.hid hn
 replace hm := Mr.hid hm
 replace hb := Mr.hid hb
 replace hv := Mr.hid hv
 replace hu := Mr.hid hu
 replace RA := Mr.hid RA
 replace hcd := Mr.hid hcd
 replace hcp := Mr.hid hcp
 clear hmI
 have B : Hid (Below W.heap.size W W) := Below.refl _ _
 by_cases ho : obj c.op = 0
 ·have hct1 : (obj c.op != 0) = false := by simp [ho]
  rw [hct1] at CT
  have hbf : b = false := by
   cases hbb : b with
   | false => rfl
   | true => exact absurd ho (hbI.out.1 hbb).1.1
  clear hb
  subst hbf
  replace CT := Mr.hid CT
  replace ho := Mr.hid ho
  clear HA hbI
  go_enter Tryz.func37, Tryz.ntmps37
  go_wp2_with (go_at_call 35; refine (CT.out _).mono ?_; clear CT; rintro e w6 ⟨rfl, hB6⟩; replace B := Mr.hid (B.out.trans (hB6.mono B.out.size)); clear hB6)
  go_ret
  exact ⟨rfl, B.out⟩
 ·have hct1 : (obj c.op != 0) = true := by simp [ho]
  rw [hct1] at CT
  replace CT := Mr.hid CT
  by_cases hpo : p ∈ o
  ·have hbf : b = false := by
    cases hbb : b with
    | false => rfl
    | true => exact absurd hpo (hbI.out.1 hbb).1.2
   clear hb
   subst hbf
   rw [decide_eq_true hpo] at HA
   replace HA := Mr.hid HA
   replace ho := Mr.hid ho
   replace hpo := Mr.hid hpo
   clear hbI
   go_enter Tryz.func37, Tryz.ntmps37
   go_wp2_with (first
    | (go_at_call 35; refine (CT.out _).mono ?_; clear CT; rintro e w6 ⟨rfl, hB6⟩; replace B := Mr.hid (B.out.trans (hB6.mono B.out.size)); clear hB6)
    | (go_at_call 54; refine (HA.out _ B.out).mono ?_; clear HA; rintro e w7 ⟨rfl, hB6⟩; replace B := Mr.hid (B.out.trans (hB6.mono B.out.size)); clear hB6))
   go_ret
   exact ⟨rfl, B.out⟩
  ·rw [decide_eq_false hpo] at HA
   replace HA := Mr.hid HA
   replace ho := Mr.hid ho
   replace hpo := Mr.hid hpo
   go_enter Tryz.func37, Tryz.ntmps37
   go_wp2_with (first
    | (go_at_call 35; refine (CT.out _).mono ?_; clear CT; rintro e w6 ⟨rfl, hB6⟩; replace B := Mr.hid (B.out.trans (hB6.mono B.out.size)); clear hB6)
    | (go_at_call 54; refine (HA.out _ B.out).mono ?_; clear HA; rintro e w7 ⟨rfl, hB6⟩; replace B := Mr.hid (B.out.trans (hB6.mono B.out.size)); clear hB6))
   go_loopg [7] m (fun q s7 wr => ∃ i : Nat, s7 = .int .i64 (i : Int) ∧ i + q = m ∧ Below W.heap.size W wr ∧ ∀ j x, j < i → o[j]? = some x → ahB c (cd cs x) = false)
   case atStart => exact ⟨0, rfl, by omega, B.out, fun j x hj => by omega⟩
   case round =>
    clear B
    obtain ⟨i, rfl, hi, B, ht⟩ := hrel
    by_cases hlt : i < m
    ·obtain ⟨x, hx⟩ : ∃ x, o[i]? = some x := ⟨o[i]'(by have := hm.out; omega), List.getElem?_eq_getElem _⟩
     have hxm := List.mem_of_getElem? hx
     obtain ⟨d, hd⟩ := get_of_lt (cs := cs) (hoo x hxm)
     have hcx := cd_get hd
     obtain ⟨gq, o1, c1, e1, _, _, hl1, r1⟩ := (hu.out.below B).there (by omega)
     cases e1
     have k1 := r1 i _ (natI_at hx)
     have hlI : (i : Int) < (m : Int) := by omega
     have q0 : (0 : Int) ≤ (i : Int) := by omega
     have hw1 : IntKind.i64.wrap ((i : Int) + 1) = (i : Int) + 1 := i64x _ (by omega) (by omega)
     have AA := RA.out _ B x d hd
     clear r1
     cases hq : ahB c d with
     | true =>
      have hbf : b = false := by
       cases hbb : b with
       | false => rfl
       | true => have := (hbI.out.1 hbb).2 x hxm; rw [hcx, hq] at this; cases this
      clear hb
      subst hbf
      rw [hq] at AA
      replace AA := Mr.hid AA
      replace hq := Mr.hid hq
      replace hx := Mr.hid hx
      replace hd := Mr.hid hd
      replace hcx := Mr.hid hcx
      replace ht := Mr.hid ht
      replace B := Mr.hid B
      clear g0 g1 g2 g3 g4 g5 g6 g7 g8 hbI
      go_wp2_with (go_at_call 55; refine AA.out.mono ?_; clear AA; rintro e w6 ⟨rfl, hB6⟩; replace B := Mr.hid (B.out.trans (hB6.mono B.out.size)); clear hB6)
      go_ret
      exact ⟨rfl, B.out⟩
     | false =>
      have ht2 : Hid (∀ j y, j < i + 1 → o[j]? = some y → ahB c (cd cs y) = false) := fun j y hj hy => by
       by_cases hji : j < i
       ·exact ht j y hji hy
       ·have : j = i := by omega
        subst this
        rw [hx] at hy
        cases hy
        rw [hcx]; exact hq
      rw [hq] at AA
      replace AA := Mr.hid AA
      replace hq := Mr.hid hq
      replace hx := Mr.hid hx
      replace hd := Mr.hid hd
      replace hcx := Mr.hid hcx
      replace ht := Mr.hid ht
      replace B := Mr.hid B
      clear g0 g1 g2 g3 g4 g5 g6 g7 g8
      go_wp2_with (go_at_call 55; refine AA.out.mono ?_; clear AA; rintro e w6 ⟨rfl, hB6⟩; replace B := Mr.hid (B.out.trans (hB6.mono B.out.size)); clear hB6)
      go_roundg (gk - 1)
      case measure => omega
      case rel => exact ⟨i + 1, by simp, by omega, B.out, ht2.out⟩
    ·have hbt : b = true := hbI.out.2 ⟨⟨ho.out, hpo.out⟩, fun x hx => by
      obtain ⟨j, hj, e⟩ := List.getElem_of_mem hx
      exact ht j x (by have := hm.out; omega) (by rw [List.getElem?_eq_getElem hj, e])⟩
     clear hb
     subst hbt
     have dl : decide ((i : Int) < (m : Int)) = false := decide_eq_false (by omega)
     replace ht := Mr.hid ht
     replace B := Mr.hid B
     clear g0 g1 g2 g3 g4 g5 g6 g7 g8 hbI
     go_wp2
     go_ret
     exact ⟨rfl, B.out⟩
end Go.Proofs.YtnbibkohgppjnaaGreat.Ws
namespace Go.Proofs.YtnbibkohgppjnaaGreat.Wt
open Go.RowKit Mr Md
theorem wt_bool : (Tryz.prog.info? 4).map (fun i => (i.zero, i.size, i.bytes)) = some (some (.bool false), 1, 1) := by kernel_rfl
theorem makeB (W : World) (n : Nat) (hn : n ≤ 281474976710656) (o : List Int) :
  (Instr.makeSlice 129 (.int .i64 (n : Int)) (.int .i64 (n : Int))).run Tryz.prog W = .ok (.slice (some ⟨W.heap.size, 0, none⟩) n n) (W.alloc (.cells (plc n o 0) 4 (0, 0))) := by
 obtain ⟨i0, hi, hz0, hz1, hz2⟩ := parts_of wt_bool
 have h := run_make (P := Tryz.prog) W 129 4 i0 (.bool false) Tryz.underlying129 hi hz0 .i64 .i64 (n : Int) (n : Int) (by omega) (Int.le_refl _) (by rw [hz2]; omega) (by omega)
 have e : (n : Int).toNat = n := by omega
 rw [e, hz1, Nat.mul_one] at h
 have e2 : madeCells (Value.bool false).cells n = plc n o 0 := by
  apply Array.ext
  ·rw [size_madeCells, plc_size]
  ·intro i h1 h2
   have hi : i < n := by simpa [plc_size] using h2
   simp [madeCells, plc, Value.cells, Nat.mod_one]
 rw [e2] at h
 exact h
structure Pb (W w : World) (b n : Nat) (o : List Int) (k : Nat) : Prop where
 bel : Below W.heap.size W w
 up : W.heap.size ≤ b
 box : w.heap[b]? = some (.cells (plc n o k) 4 (0, 0))
theorem Pb.below {W w w' : World} {b n : Nat} {o : List Int} {k : Nat} (h : Pb W w b n o k) (hB : Below w.heap.size w w') : Pb W w' b n o k :=
 ⟨h.bel.trans (hB.mono h.bel.size), h.up, (hB.block _ (Array.getElem?_eq_some_iff.1 h.box).1).trans h.box⟩
theorem Pb.get {W w : World} {b n : Nat} {o : List Int} {k : Nat} (h : Pb W w b n o k) {j : Nat} (hj : j < n) : w.cell? ⟨b, j, none⟩ = some (.bool (decide ((j : Int) ∈ o.take k))) ∧ w.frozen? ⟨b, j, none⟩ = false ∧ b < w.heap.size := by
 refine ⟨?_, by simp [World.frozen?, h.box], (Array.getElem?_eq_some_iff.1 h.box).1⟩
 rw [cell_blk h.box, plc_get o k hj]
theorem Pb.next {W w : World} {b n : Nat} {o : List Int} {k j : Nat} (h : Pb W w b n o k) (hk : o[k]? = some (j : Int)) : Pb W (w.setCell ⟨b, j, none⟩ (.bool true)) b n o (k + 1) :=
 ⟨h.bel.setCell (p := ⟨b, _, none⟩) h.up _, h.up, by rw [setBlk h.box, plc_set hk]⟩
theorem full_succ {cs : List Cq} {o : List Int} {i : Nat} {c : Cq} (h : Full1 cs o i) (hc : cs[i]? = some c) (hs : obj c.op ≠ 0 → c.fin ≠ -1 → (i : Int) ∈ o) : Full1 cs o (i + 1) := fun j d hj hd h1 h2 => by
 by_cases e : j < i
 ·exact h j d e hd h1 h2
 ·have : j = i := by omega
  subst this; rw [hc] at hd; cases hd; exact hs h1 h2
theorem full_not {cs : List Cq} {o : List Int} {i : Nat} {c : Cq} (hc : cs[i]? = some c) (h1 : obj c.op ≠ 0) (h2 : c.fin ≠ -1) (h3 : (i : Int) ∉ o) : ¬ IsOrd cs o := fun h => h3 (h.2 i c (List.getElem?_eq_some_iff.1 hc).1 hc h1 h2)
set_option maxHeartbeats 16000000 in
theorem isOrder_any {W : World} {T T' : Nat → Prop} {v u : Value} {cs : List Cq} {o : List Int} (hv : Sl W T 9 v cs.length (cqs cs)) (hu : Sl W T' 1 u o.length (ints o)) (hsm : cs.length * 72 ≤ 281474976710656) (hso : o.length * 8 ≤ 281474976710656) (b : Bool) (hb : b = true ↔ IsOrd cs o) :
  Calls Tryz.prog 58 #[v, u] W fun e w' => e = .returned (.bool b) ∧ Below W.heap.size W w' := by
 obtain ⟨a, cap, rfl, hcap⟩ := hv.form
 obtain ⟨au, cu, rfl, hcu⟩ := hu.form
 obtain ⟨n, hn⟩ : ∃ n, n = cs.length := ⟨_, rfl⟩
 obtain ⟨m, hm⟩ : ∃ m, m = o.length := ⟨_, rfl⟩
 rw [← hn, ← hm]
 rw [← hn] at hsm
 rw [← hm] at hso hu
 have hmk := makeB W n (by omega) o
 have hP0 : ∀ w1, w1 = W.alloc (.cells (plc n o 0) 4 (0, 0)) → Pb W w1 W.heap.size n o 0 := by
  rintro w1 rfl
  exact ⟨(Below.refl _ _).alloc (Nat.le_refl _) _, Nat.le_refl _, new_at _ _ _ rfl⟩
 replace hn := Mr.hid hn
 replace hm := Mr.hid hm
 replace hv := Mr.hid hv
 replace hu := Mr.hid hu
 replace hb := Mr.hid hb
 replace hP0 := Mr.hid hP0
 clear hcap hcu
 go_enter Tryz.func58, Tryz.ntmps58
 go_upto_region 2 with (fail)
 have hA := hP0.out _ rfl
 clear hP0 hmk
 generalize (W.alloc (.cells (plc n o 0) 4 (0, 0))) = w1 at *
 obtain ⟨ba, hba⟩ : ∃ ba, ba = W.heap.size := ⟨_, rfl⟩
 rw [← hba] at hA
 rw [← hba]
 clear hba
 replace hA := Mr.hid hA
 go_wp2
 go_loopg [15] m (fun q s15 wr => ∃ k : Nat, s15 = .int .i64 (k : Int) ∧ k + q = m ∧ Some1 cs o k ∧ Pb W wr ba n o k)
 case atStart => exact ⟨0, rfl, by omega, Some1.zero _ _, hA.out⟩
 case round =>
  clear hA
  obtain ⟨k, rfl, hk, hS, hA⟩ := hrel
  by_cases hlt : k < m
  ·obtain ⟨x, hx⟩ : ∃ x, o[k]? = some x := ⟨o[k]'(by have := hm.out; omega), List.getElem?_eq_getElem _⟩
   have hno := Some1.not (cs := cs) (o := o) (n := k) (x := x) (by have := hm.out; omega) hx
   obtain ⟨g1, o1, c1, e1, _, _, hl1, r1⟩ := (hu.out.below hA.bel).there (by omega)
   cases e1
   have k1 := r1 k _ (by rw [ints, List.getElem?_map, hx]; rfl)
   have hlI : (k : Int) < (m : Int) := by omega
   have hw1 : IntKind.i64.wrap ((k : Int) + 1) = (k : Int) + 1 := i64x _ (by omega) (by omega)
   have NB := fun w => isNumber_any a n cap x w
   clear r1
   by_cases hin : 0 ≤ x ∧ x < (n : Int)
   ·rw [decide_eq_true hin] at NB
    obtain ⟨j, rfl⟩ : ∃ j : Nat, x = (j : Int) := ⟨x.toNat, by omega⟩
    have hjn : j < n := by omega
    obtain ⟨c, hcj⟩ := get_of_lt (cs := cs) (i := j) (by have := hn.out; omega)
    obtain ⟨bc, oc, rfl, A9⟩ := call_at (hv.out.below hA.bel) hcj
    obtain ⟨hbl, g0, g1, g2, g3, g4, g5, g6, g7, g8⟩ := A9
    have f1 : (j : Int) < (n : Int) := by omega
    have CT := fun w => counts_any c w
    unfold Cq.val at CT
    have GT := Mr.hid (fun w (h : Pb W w ba n o k) => h.get hjn)
    replace NB := Mr.hid NB
    replace hin := Mr.hid hin
    replace hcj := Mr.hid hcj
    by_cases ho : obj c.op = 0
    ·have hct1 : (obj c.op != 0) = false := by simp [ho]
     rw [hct1] at CT
     have hbf : b = false := by
      cases hbb : b with
      | false => rfl
      | true => exact absurd (hb.out.1 hbb) (hno (fun h => by obtain ⟨_, ⟨c', hc', hoo⟩, _⟩ := h; rw [Int.toNat_natCast, hcj.out] at hc'; cases hc'; exact hoo ho))
     subst hbf
     replace CT := Mr.hid CT
     replace ho := Mr.hid ho
     replace hno := Mr.hid hno
     replace hx := Mr.hid hx
     replace hS := Mr.hid hS
     replace hA := Mr.hid hA
     go_wp2_with (first
      | (go_at_call 81; refine (NB.out _).mono ?_; clear NB; rintro e w5 ⟨rfl, rfl⟩)
      | (go_at_call 23; refine (CT.out _).mono ?_; clear CT; rintro e w6 ⟨rfl, hB6⟩; replace hA := Mr.hid (hA.out.below hB6); clear hB6; clear g0))
     go_ret
     exact ⟨rfl, hA.out.bel⟩
    ·have hct1 : (obj c.op != 0) = true := by simp [ho]
     rw [hct1] at CT
     by_cases hp : (j : Int) ∈ o.take k
     ·have hbf : b = false := by
       cases hbb : b with
       | false => rfl
       | true => exact absurd (hb.out.1 hbb) (hno (fun h => h.2.2 hp))
      subst hbf
      have hp2 : decide ((j : Int) ∈ o.take k) = true := decide_eq_true hp
      replace CT := Mr.hid CT
      replace ho := Mr.hid ho
      replace hp := Mr.hid hp
      replace hp2 := Mr.hid hp2
      replace hno := Mr.hid hno
      replace hx := Mr.hid hx
      replace hS := Mr.hid hS
      replace hA := Mr.hid hA
      go_wp2_with (first
       | (go_at_call 81; refine (NB.out _).mono ?_; clear NB; rintro e w5 ⟨rfl, rfl⟩)
       | (go_at_call 23; refine (CT.out _).mono ?_; clear CT; rintro e w6 ⟨rfl, hB6⟩; replace hA := Mr.hid (hA.out.below hB6); clear hB6; clear g0; obtain ⟨z1, z2, z3⟩ := GT.out _ hA.out; rw [hp2.out] at z1))
      go_ret
      exact ⟨rfl, hA.out.bel⟩
     ·have hp2 : decide ((j : Int) ∈ o.take k) = false := decide_eq_false hp
      have hSn := Mr.hid (hS.succ hx (by omega) (by rw [Int.toNat_natCast]; exact hcj.out) ho hp)
      have NX := Mr.hid (fun w (h : Pb W w ba n o k) => h.next hx)
      replace CT := Mr.hid CT
      replace ho := Mr.hid ho
      replace hp := Mr.hid hp
      replace hp2 := Mr.hid hp2
      replace hno := Mr.hid hno
      replace hx := Mr.hid hx
      replace hS := Mr.hid hS
      replace hA := Mr.hid hA
      go_wp2_with (first
       | (go_at_call 81; refine (NB.out _).mono ?_; clear NB; rintro e w5 ⟨rfl, rfl⟩)
       | (go_at_call 23; refine (CT.out _).mono ?_; clear CT; rintro e w6 ⟨rfl, hB6⟩; replace hA := Mr.hid (hA.out.below hB6); clear hB6; clear g0; obtain ⟨z1, z2, z3⟩ := GT.out _ hA.out; rw [hp2.out] at z1))
      go_roundg (gk - 1)
      case measure => omega
      case rel => exact ⟨k + 1, by simp, by omega, hSn.out, NX.out _ hA.out⟩
   ·rw [decide_eq_false hin] at NB
    have hbf : b = false := by
     cases hbb : b with
     | false => rfl
     | true => exact absurd (hb.out.1 hbb) (hno (fun h => by
       obtain ⟨h0, ⟨c', hc', _⟩, _⟩ := h
       have := (List.getElem?_eq_some_iff.1 hc').1
       have := hn.out
       omega))
    subst hbf
    replace NB := Mr.hid NB
    replace hin := Mr.hid hin
    replace hno := Mr.hid hno
    replace hx := Mr.hid hx
    replace hS := Mr.hid hS
    replace hA := Mr.hid hA
    go_wp2_with (go_at_call 81; refine (NB.out _).mono ?_; clear NB; rintro e w5 ⟨rfl, rfl⟩)
    go_ret
    exact ⟨rfl, hA.out.bel⟩
  ·have hin : k = o.length := by have := hm.out; omega
   rw [hin] at hS hA
   clear hin
   have dl : decide ((k : Int) < (m : Int)) = false := decide_eq_false (by omega)
   replace hS := Mr.hid hS
   replace hA := Mr.hid hA
   go_wp2
   go_loopg [43] n (fun q s43 wr => ∃ i : Nat, s43 = .int .i64 (i : Int) ∧ i + q = n ∧ Full1 cs o i ∧ Pb W wr ba n o o.length)
   case atStart => exact ⟨0, rfl, by omega, fun j d hj => by omega, hA.out⟩
   case round =>
    clear hA
    obtain ⟨i, rfl, hi, hF, hA⟩ := hrel
    by_cases hlt2 : i < n
    ·obtain ⟨c, hci⟩ := get_of_lt (cs := cs) (i := i) (by have := hn.out; omega)
     obtain ⟨bc, oc, rfl, A9⟩ := call_at (hv.out.below hA.bel) hci
     have hbx : ∀ w1, w1 = wr.alloc (cqO c) → w1.heap[wr.heap.size]? = some (cqO c) ∧ Pb W w1 ba n o o.length := by rintro w1 rfl; exact ⟨new_at _ _ _ rfl, hA.below ((Below.refl _ _).alloc (Nat.le_refl _) _)⟩
     obtain ⟨hbl, g0, g1, g2, g3, g4, g5, g6, g7, g8⟩ := A9
     have hlI : (i : Int) < (n : Int) := by omega
     have hw1 : IntKind.i64.wrap ((i : Int) + 1) = (i : Int) + 1 := i64x _ (by omega) (by omega)
     have CT := fun w => counts_any c w
     have ED := fun w => ended_any c w
     unfold Cq.val at CT ED
     have GT : ∀ w, Pb W w ba n o o.length → w.cell? ⟨ba, i, none⟩ = some (.bool (decide ((i : Int) ∈ o))) ∧ w.frozen? ⟨ba, i, none⟩ = false ∧ ba < w.heap.size := fun w h => by have := h.get hlt2; rwa [List.take_length] at this
     clear hA
     replace GT := Mr.hid GT
     replace hbx := Mr.hid hbx
     replace hci := Mr.hid hci
     replace hF := Mr.hid hF
     go_upto_region 12 with (fail)
     obtain ⟨hX5, hA⟩ := hbx.out _ rfl
     unfold cqO at hX5 hA
     clear hbx g0 g1 g2 g3 g4 g5 g6 g7 g8 hbl
     generalize (wr.alloc (Obj.cells #[.int .i64 c.th, .int .i64 c.op, .int .i64 c.arg, .int .i64 c.data, .int .i64 c.beg, .int .i64 c.fin, .int .i64 c.pt, .int .i64 c.ak, .int .i64 c.av] 45 (0, 0))) = w5 at *
     generalize wr.heap.size = bx at *
     clear wr
     obtain ⟨k0, k1, k2, k3, k4, k5, k6, k7, k8, kl⟩ := cq_cells (c := c) hX5
     replace hX5 := Mr.hid hX5
     replace hA := Mr.hid hA
     by_cases ho : obj c.op = 0
     ·have hct1 : (obj c.op != 0) = false := by simp [ho]
      have hFn := Mr.hid (full_succ hF.out hci.out (fun h => absurd ho h))
      rw [hct1] at CT
      replace CT := Mr.hid CT
      replace ho := Mr.hid ho
      go_wp2_with (go_at_call 23; refine (CT.out _).mono ?_; clear CT; rintro e w6 ⟨rfl, hB6⟩; replace hA := Mr.hid (hA.out.below hB6); clear hB6 k0)
      go_roundg (gk - 1)
      case measure => omega
      case rel => exact ⟨i + 1, by simp, by omega, hFn.out, hA.out⟩
     ·have hct1 : (obj c.op != 0) = true := by simp [ho]
      rw [hct1] at CT
      replace CT := Mr.hid CT
      by_cases he : c.fin = -1
      ·have hFn := Mr.hid (full_succ hF.out hci.out (fun _ h => absurd he h))
       have hE : endB c = false := by simp [endB, he]
       rw [hE] at ED
       replace ED := Mr.hid ED
       replace ho := Mr.hid ho
       replace he := Mr.hid he
       go_wp2_with (first
        | (go_at_call 23; refine (CT.out _).mono ?_; clear CT; rintro e w6 ⟨rfl, hB6⟩; replace hA := Mr.hid (hA.out.below hB6); have hX6 := (hB6.block _ kl).trans hX5.out; clear hB6 k0 k1 k2 k3 k4 k5 k6 k7 k8; obtain ⟨k0, k1, k2, k3, k4, k5, k6, k7, k8, kl6⟩ := cq_cells (c := c) hX6; clear hX6)
        | (go_at_call 27; refine (ED.out _).mono ?_; clear ED; rintro e w7 ⟨rfl, hB6⟩; replace hA := Mr.hid (hA.out.below hB6); clear hB6))
       go_roundg (gk - 1)
       case measure => omega
       case rel => exact ⟨i + 1, by simp, by omega, hFn.out, hA.out⟩
      ·have hE : endB c = true := by simp [endB, he]
       rw [hE] at ED
       replace ED := Mr.hid ED
       by_cases hp : (i : Int) ∈ o
       ·have hFn := Mr.hid (full_succ hF.out hci.out (fun _ _ => hp))
        have hp2 := Mr.hid (decide_eq_true hp)
        replace ho := Mr.hid ho
        replace he := Mr.hid he
        replace hp := Mr.hid hp
        go_wp2_with (first
         | (go_at_call 23; refine (CT.out _).mono ?_; clear CT; rintro e w6 ⟨rfl, hB6⟩; replace hA := Mr.hid (hA.out.below hB6); have hX6 := (hB6.block _ kl).trans hX5.out; clear hB6 k0 k1 k2 k3 k4 k5 k6 k7 k8; obtain ⟨k0, k1, k2, k3, k4, k5, k6, k7, k8, kl6⟩ := cq_cells (c := c) hX6; clear hX6)
         | (go_at_call 27; refine (ED.out _).mono ?_; clear ED; rintro e w7 ⟨rfl, hB6⟩; replace hA := Mr.hid (hA.out.below hB6); clear hB6; obtain ⟨z1, z2, z3⟩ := GT.out _ hA.out; rw [hp2.out] at z1))
        go_roundg (gk - 1)
        case measure => omega
        case rel => exact ⟨i + 1, by simp, by omega, hFn.out, hA.out⟩
       ·have hbf : b = false := by
         cases hbb : b with
         | false => rfl
         | true => exact absurd (hb.out.1 hbb) (full_not hci.out ho he hp)
        subst hbf
        have hp2 := Mr.hid (decide_eq_false hp)
        replace ho := Mr.hid ho
        replace he := Mr.hid he
        replace hp := Mr.hid hp
        go_wp2_with (first
         | (go_at_call 23; refine (CT.out _).mono ?_; clear CT; rintro e w6 ⟨rfl, hB6⟩; replace hA := Mr.hid (hA.out.below hB6); have hX6 := (hB6.block _ kl).trans hX5.out; clear hB6 k0 k1 k2 k3 k4 k5 k6 k7 k8; obtain ⟨k0, k1, k2, k3, k4, k5, k6, k7, k8, kl6⟩ := cq_cells (c := c) hX6; clear hX6)
         | (go_at_call 27; refine (ED.out _).mono ?_; clear ED; rintro e w7 ⟨rfl, hB6⟩; replace hA := Mr.hid (hA.out.below hB6); clear hB6; obtain ⟨z1, z2, z3⟩ := GT.out _ hA.out; rw [hp2.out] at z1))
        go_ret
        exact ⟨rfl, hA.out.bel⟩
    ·have hin2 : i = cs.length := by have := hn.out; omega
     rw [hin2] at hF
     have hbt : b = true := hb.out.2 ⟨hS.out, hF⟩
     subst hbt
     have dl2 : decide ((i : Int) < (n : Int)) = false := decide_eq_false (by omega)
     replace hF := Mr.hid hF
     replace hA := Mr.hid hA
     go_wp2
     go_ret
     exact ⟨rfl, hA.out.bel⟩
end Go.Proofs.YtnbibkohgppjnaaGreat.Wt
namespace Go.Proofs.YtnbibkohgppjnaaGreat.Wt
open Go.RowKit Mr Md
section
variable {W : World} {T T' : Nat → Prop} {v u : Value} {cs : List Cq} {o : List Int}
set_option maxHeartbeats 16000000 in
theorem rIsOrder_any (hv : Sl W T 9 v cs.length (cqs cs)) (hu : Sl W T' 1 u o.length (ints o)) (hsm : cs.length * 72 ≤ 281474976710656) (hso : o.length * 8 ≤ 281474976710656) (b : Bool) (hb : b = true ↔ IsOrd cs o) :
  Calls Tryz.prog 36 #[v, u] W fun e w' => e = .returned (.bool b) ∧ Below W.heap.size W w' := by
 obtain ⟨a, cap, rfl, hcap⟩ := hv.form
 obtain ⟨au, cu, rfl, hcu⟩ := hu.form
 have HA := fun k (hk : k ≤ o.length) w' (hB : Below W.heap.size W w') x => has_any (sl_takeI (hu.below hB) hk) (Nat.le_trans (Nat.mul_le_mul_right _ (by simp; omega)) hso) x
 have HW := fun w' (hB : Below W.heap.size W w') x => has_any (hu.below hB) hso x
 obtain ⟨n, hn⟩ : ∃ n, n = cs.length := ⟨_, rfl⟩
 obtain ⟨m, hm⟩ : ∃ m, m = o.length := ⟨_, rfl⟩
 rw [← hn, ← hm]
 rw [← hn] at hsm
 rw [← hm] at hso hu hcu HA HW
 replace hn := Mr.hid hn
 replace hm := Mr.hid hm
 replace hv := Mr.hid hv
 replace hu := Mr.hid hu
 replace hb := Mr.hid hb
 replace HA := Mr.hid HA
 replace HW := Mr.hid HW
 go_enter Tryz.func36, Tryz.ntmps36
 go_wp2
 go_loopg [5] m (fun q s5 wr => ∃ k : Nat, s5 = .int .i64 (k : Int) ∧ k + q = m ∧ Some1 cs o k ∧ Below W.heap.size W wr)
 case atStart => exact ⟨0, rfl, by omega, Some1.zero _ _, Below.refl _ _⟩
 case round =>
  obtain ⟨k, rfl, hk, hS, B⟩ := hrel
  by_cases hlt : k < m
  ·obtain ⟨x, hx⟩ : ∃ x, o[k]? = some x := ⟨o[k]'(by have := hm.out; omega), List.getElem?_eq_getElem _⟩
   have hno := Some1.not (cs := cs) (o := o) (n := k) (x := x) (by have := hm.out; omega) hx
   obtain ⟨g1, o1, c1, e1, _, _, hl1, r1⟩ := (hu.out.below B).there (by omega)
   cases e1
   have k1 := r1 k _ (by rw [ints, List.getElem?_map, hx]; rfl)
   have hlI : (k : Int) < (m : Int) := by omega
   have hw1 : IntKind.i64.wrap ((k : Int) + 1) = (k : Int) + 1 := i64x _ (by omega) (by omega)
   have q0 : (0 : Int) ≤ (k : Int) := by omega
   have q1 : (k : Int) ≤ (cu : Int) := by omega
   clear r1
   by_cases hin : 0 ≤ x ∧ x < (n : Int)
   ·obtain ⟨j, rfl⟩ : ∃ j : Nat, x = (j : Int) := ⟨x.toNat, by omega⟩
    have hjn : j < n := by omega
    obtain ⟨c, hcj⟩ := get_of_lt (cs := cs) (i := j) (by have := hn.out; omega)
    obtain ⟨bc, oc, rfl, A9⟩ := call_at (hv.out.below B) hcj
    obtain ⟨hbl, g0, g1, g2, g3, g4, g5, g6, g7, g8⟩ := A9
    have f1 : (j : Int) < (n : Int) := by omega
    have f2 : decide ((n : Int) ≤ (j : Int)) = false := decide_eq_false (by omega)
    have CT := fun w => rCounts_any c w
    unfold Cq.val at CT
    have HK := fun w hB => HA.out k (by omega) w hB (j : Int)
    replace hin := Mr.hid hin
    replace hcj := Mr.hid hcj
    replace B := Mr.hid B
    by_cases ho : obj c.op = 0
    ·have hct1 : (obj c.op != 0) = false := by simp [ho]
     rw [hct1] at CT
     have hbf : b = false := by
      cases hbb : b with
      | false => rfl
      | true => exact absurd (hb.out.1 hbb) (hno (fun h => by obtain ⟨_, ⟨c', hc', hoo⟩, _⟩ := h; rw [Int.toNat_natCast, hcj.out] at hc'; cases hc'; exact hoo ho))
     subst hbf
     replace CT := Mr.hid CT
     replace ho := Mr.hid ho
     replace hno := Mr.hid hno
     replace hx := Mr.hid hx
     replace hS := Mr.hid hS
     clear HK
     go_wp2_with (go_at_call 35; refine (CT.out _).mono ?_; clear CT; rintro e w6 ⟨rfl, hB6⟩; replace B := Mr.hid (B.out.trans (hB6.mono B.out.size)); clear hB6)
     go_ret
     exact ⟨rfl, B.out⟩
    ·have hct1 : (obj c.op != 0) = true := by simp [ho]
     rw [hct1] at CT
     by_cases hp : (j : Int) ∈ o.take k
     ·have hbf : b = false := by
       cases hbb : b with
       | false => rfl
       | true => exact absurd (hb.out.1 hbb) (hno (fun h => h.2.2 hp))
      subst hbf
      rw [decide_eq_true hp] at HK
      replace HK := Mr.hid HK
      replace CT := Mr.hid CT
      replace ho := Mr.hid ho
      replace hp := Mr.hid hp
      replace hno := Mr.hid hno
      replace hx := Mr.hid hx
      replace hS := Mr.hid hS
      go_wp2_with (first
       | (go_at_call 35; refine (CT.out _).mono ?_; clear CT; rintro e w6 ⟨rfl, hB6⟩; replace B := Mr.hid (B.out.trans (hB6.mono B.out.size)); clear hB6)
       | (go_at_call 54; refine (HK.out _ B.out).mono ?_; clear HK; rintro e w7 ⟨rfl, hB6⟩; replace B := Mr.hid (B.out.trans (hB6.mono B.out.size)); clear hB6))
      go_ret
      exact ⟨rfl, B.out⟩
     ·have hSn := Mr.hid (hS.succ hx (by omega) (by rw [Int.toNat_natCast]; exact hcj.out) ho hp)
      rw [decide_eq_false hp] at HK
      replace HK := Mr.hid HK
      replace CT := Mr.hid CT
      replace ho := Mr.hid ho
      replace hp := Mr.hid hp
      replace hno := Mr.hid hno
      replace hx := Mr.hid hx
      replace hS := Mr.hid hS
      go_wp2_with (first
       | (go_at_call 35; refine (CT.out _).mono ?_; clear CT; rintro e w6 ⟨rfl, hB6⟩; replace B := Mr.hid (B.out.trans (hB6.mono B.out.size)); clear hB6)
       | (go_at_call 54; refine (HK.out _ B.out).mono ?_; clear HK; rintro e w7 ⟨rfl, hB6⟩; replace B := Mr.hid (B.out.trans (hB6.mono B.out.size)); clear hB6))
      go_roundg (gk - 1)
      case measure => omega
      case rel => exact ⟨k + 1, by simp, by omega, hSn.out, B.out⟩
   ·have hbf : b = false := by
     cases hbb : b with
     | false => rfl
     | true => exact absurd (hb.out.1 hbb) (hno (fun h => by
       obtain ⟨h0, ⟨c', hc', _⟩, _⟩ := h
       have := (List.getElem?_eq_some_iff.1 hc').1
       have := hn.out
       omega))
    subst hbf
    replace hno := Mr.hid hno
    replace hx := Mr.hid hx
    replace hS := Mr.hid hS
    replace B := Mr.hid B
    by_cases hx0 : x < 0
    ·have f0 : decide (x < 0) = true := decide_eq_true hx0
     clear hin
     go_wp2
     go_ret
     exact ⟨rfl, B.out⟩
    ·have f0 : decide (x < 0) = false := decide_eq_false hx0
     have f2 : decide ((n : Int) ≤ x) = true := decide_eq_true (by omega)
     clear hin
     go_wp2
     go_ret
     exact ⟨rfl, B.out⟩
  ·have hin : k = o.length := by have := hm.out; omega
   rw [hin] at hS
   clear hin
   have dl : decide ((k : Int) < (m : Int)) = false := decide_eq_false (by omega)
   replace hS := Mr.hid hS
   replace B := Mr.hid B
   go_wp2
   go_loopg [7] n (fun q s7 wr => ∃ i : Nat, s7 = .int .i64 (i : Int) ∧ i + q = n ∧ Full1 cs o i ∧ Below W.heap.size W wr)
   case atStart => exact ⟨0, rfl, by omega, fun j d hj => by omega, B.out⟩
   case round =>
    clear B
    obtain ⟨i, rfl, hi, hF, B⟩ := hrel
    by_cases hlt2 : i < n
    ·obtain ⟨c, hci⟩ := get_of_lt (cs := cs) (i := i) (by have := hn.out; omega)
     obtain ⟨bc, oc, rfl, A9⟩ := call_at (hv.out.below B) hci
     have RD : ∀ w, Below W.heap.size W w → At9 w bc (oc + i * 9) c := fun w hB => by
      obtain ⟨b', o', e, h⟩ := call_at (hv.out.below hB) hci
      cases e; exact h
     obtain ⟨hbl, g0, g1, g2, g3, g4, g5, g6, g7, g8⟩ := A9
     have hlI : (i : Int) < (n : Int) := by omega
     have hw1 : IntKind.i64.wrap ((i : Int) + 1) = (i : Int) + 1 := i64x _ (by omega) (by omega)
     have CT := fun w => rCounts_any c w
     unfold Cq.val at CT
     have HK := fun w hB => HW.out w hB (i : Int)
     replace RD := Mr.hid RD
     replace hci := Mr.hid hci
     replace hF := Mr.hid hF
     replace B := Mr.hid B
     by_cases ho : obj c.op = 0
     ·have hct1 : (obj c.op != 0) = false := by simp [ho]
      have hFn := Mr.hid (full_succ hF.out hci.out (fun h => absurd ho h))
      rw [hct1] at CT
      replace CT := Mr.hid CT
      replace ho := Mr.hid ho
      clear HK
      go_wp2_with (go_at_call 35; refine (CT.out _).mono ?_; clear CT; rintro e w6 ⟨rfl, hB6⟩; replace B := Mr.hid (B.out.trans (hB6.mono B.out.size)); clear hB6)
      go_roundg (gk - 1)
      case measure => omega
      case rel => exact ⟨i + 1, by simp, by omega, hFn.out, B.out⟩
     ·have hct1 : (obj c.op != 0) = true := by simp [ho]
      rw [hct1] at CT
      replace CT := Mr.hid CT
      by_cases he : c.fin = -1
      ·have hFn := Mr.hid (full_succ hF.out hci.out (fun _ h => absurd he h))
       have hE : (c.fin != -1) = false := by simp [he]
       replace ho := Mr.hid ho
       replace he := Mr.hid he
       clear HK
       go_wp2_with (go_at_call 35; refine (CT.out _).mono ?_; clear CT; rintro e w6 ⟨rfl, hB6⟩; replace B := Mr.hid (B.out.trans (hB6.mono B.out.size)); clear hB6; clear g0 g1 g2 g3 g4 g5 g6 g7 g8 hbl; obtain ⟨hbl, g0, g1, g2, g3, g4, g5, g6, g7, g8⟩ := RD.out _ B.out)
       go_roundg (gk - 1)
       case measure => omega
       case rel => exact ⟨i + 1, by simp, by omega, hFn.out, B.out⟩
      ·have hE : (c.fin != -1) = true := by simp [he]
       by_cases hp : (i : Int) ∈ o
       ·have hFn := Mr.hid (full_succ hF.out hci.out (fun _ _ => hp))
        rw [decide_eq_true hp] at HK
        replace HK := Mr.hid HK
        replace ho := Mr.hid ho
        replace he := Mr.hid he
        replace hp := Mr.hid hp
        go_wp2_with (first
         | (go_at_call 35; refine (CT.out _).mono ?_; clear CT; rintro e w6 ⟨rfl, hB6⟩; replace B := Mr.hid (B.out.trans (hB6.mono B.out.size)); clear hB6; clear g0 g1 g2 g3 g4 g5 g6 g7 g8 hbl; obtain ⟨hbl, g0, g1, g2, g3, g4, g5, g6, g7, g8⟩ := RD.out _ B.out)
         | (go_at_call 54; refine (HK.out _ B.out).mono ?_; clear HK; rintro e w7 ⟨rfl, hB6⟩; replace B := Mr.hid (B.out.trans (hB6.mono B.out.size)); clear hB6))
        go_roundg (gk - 1)
        case measure => omega
        case rel => exact ⟨i + 1, by simp, by omega, hFn.out, B.out⟩
       ·have hbf : b = false := by
         cases hbb : b with
         | false => rfl
         | true => exact absurd (hb.out.1 hbb) (full_not hci.out ho he hp)
        subst hbf
        rw [decide_eq_false hp] at HK
        replace HK := Mr.hid HK
        replace ho := Mr.hid ho
        replace he := Mr.hid he
        replace hp := Mr.hid hp
        go_wp2_with (first
         | (go_at_call 35; refine (CT.out _).mono ?_; clear CT; rintro e w6 ⟨rfl, hB6⟩; replace B := Mr.hid (B.out.trans (hB6.mono B.out.size)); clear hB6; clear g0 g1 g2 g3 g4 g5 g6 g7 g8 hbl; obtain ⟨hbl, g0, g1, g2, g3, g4, g5, g6, g7, g8⟩ := RD.out _ B.out)
         | (go_at_call 54; refine (HK.out _ B.out).mono ?_; clear HK; rintro e w7 ⟨rfl, hB6⟩; replace B := Mr.hid (B.out.trans (hB6.mono B.out.size)); clear hB6))
        go_ret
        exact ⟨rfl, B.out⟩
    ·have hin2 : i = cs.length := by have := hn.out; omega
     rw [hin2] at hF
     clear hin2
     have hbt : b = true := hb.out.2 ⟨hS.out, hF⟩
     subst hbt
     have dl2 : decide ((i : Int) < (n : Int)) = false := decide_eq_false (by omega)
     replace hF := Mr.hid hF
     replace B := Mr.hid B
     go_wp2
     go_ret
     exact ⟨rfl, B.out⟩
end
end Go.Proofs.YtnbibkohgppjnaaGreat.Wt
namespace Go.Proofs.YtnbibkohgppjnaaGreat.Wt
open Go.RowKit Mr Md
theorem wt_call : (Tryz.prog.info? 45).map (fun i => (i.zero, i.size, i.bytes)) = some (some (.agg #[.int .i64 0, .int .i64 0, .int .i64 0, .int .i64 0, .int .i64 0, .int .i64 0, .int .i64 0, .int .i64 0, .int .i64 0]), 9, 72) := by kernel_rfl
def mk77 : Cq := ⟨-77, 0, 0, 0, 0, 0, 0, 0, 0⟩
theorem cqs_one (l : List Cq) : ∀ u ∈ cqs l, u.oneCell' = true := by
 intro u hu
 obtain ⟨c, _, h⟩ := List.mem_flatMap.1 hu
 simp [Cq.row] at h
 rcases h with rfl | rfl | rfl | rfl | rfl | rfl | rfl | rfl | rfl <;> rfl
theorem cqs_app (a b : List Cq) : cqs (a ++ b) = cqs a ++ cqs b := by simp [cqs]
theorem cqs_sing (c : Cq) : cqs [c] = c.row := by simp [cqs]
theorem sl_cut {W : World} {T : Nat → Prop} {a : Option Addr} {cap : Nat} {cs : List Cq} {m : Cq} (h : Sl W T 9 (.slice a (cs.length + 1) cap) (cs.length + 1) (cqs (cs ++ [m]))) : Sl W T 9 (.slice a cs.length cap) cs.length (cqs cs) := by
 obtain ⟨b, o, cap', hv, hc, hT, hl, hr⟩ := h.there (by omega)
 cases hv
 refine ⟨cqs_length _, _, cap, rfl, by omega, .inr ⟨b, o, rfl, hT, hl, fun k u hu => ?_⟩⟩
 refine hr k u ?_
 rw [cqs_app, List.getElem?_append_left (List.getElem?_eq_some_iff.1 hu).1]; exact hu
theorem new9 {w w1 : World} {c : Cq} (h1 : w1 = w.alloc (cqO c)) : ∀ ad, some (⟨w.heap.size, 0, none⟩ : Addr) = some ad → ∀ j u, (c.row)[j]? = some u → w1.cell? (ad.add j) = some u := by
 rintro ad e j u hu
 cases e
 subst h1
 have hn := new_at w (cqO c) w.heap.size rfl
 rw [add1, Nat.zero_add]
 unfold cqO at hn ⊢
 rw [cell_blk hn]
 simpa [Cq.row] using hu
theorem sl_src {w : World} {T : Nat → Prop} {size n : Nat} {a : Option Addr} {cap : Nat} {xs : List Value} (h : Sl w T size (.slice a n cap) n xs) : (a = none → n = 0) ∧ ∀ w' : World, Below w.heap.size w w' → ∀ ad, a = some ad → ∀ j u, xs[j]? = some u → w'.cell? (ad.add j) = some u := by
 obtain ⟨h1, a', cap', hv, hc, h2⟩ := h
 cases hv
 rcases h2 with rfl | ⟨b, o, rfl, hT, hl, hr⟩
 ·refine ⟨fun _ => rfl, fun w' hB ad e j u hu => ?_⟩
  have : xs = [] := List.eq_nil_of_length_eq_zero (by simpa using h1)
  subst this; simp at hu
 ·refine ⟨(fun e => by cases e), fun w' hB ad e j u hu => ?_⟩
  cases e
  rw [add1, hB.cell (p := ⟨b, _, none⟩) hl]
  exact hr j u hu
set_option maxHeartbeats 8000000 in
theorem twin_any {W : World} {T : Nat → Prop} {v : Value} {cs : List Cq} (hv : Sl W T 9 v cs.length (cqs cs)) (hsm : cs.length * 72 ≤ 140737488351232) :
  Calls Tryz.prog 5 #[v] W fun e w' => ∃ a cap, e = .returned (.slice a cs.length cap) ∧ Md.Own w' (fun k => W.heap.size ≤ k) 45 9 (.slice a (cs.length + 1) cap) (cs.length + 1) (cqs (cs ++ [mk77])) ∧ Below W.heap.size W w' := by
 obtain ⟨i0, hi0, hz0, hz1, hz2⟩ := parts_of wt_call
 obtain ⟨a, cap, rfl, hcap⟩ := hv.form
 obtain ⟨hs1, hs2⟩ := sl_src hv
 have hl1 := cqs_length cs
 have ho1 := cqs_one cs
 obtain ⟨n, hn⟩ : ∃ n, n = cs.length := ⟨_, rfl⟩
 have AP : ∀ x, cqs cs ++ cqs [x] = cqs (cs ++ [x]) := fun x => (cqs_app cs [x]).symm
 rw [← hn] at hsm hcap hs1 hl1 ⊢
 replace hn := Mr.hid hn
 replace hs1 := Mr.hid hs1
 replace hs2 := Mr.hid hs2
 replace hl1 := Mr.hid hl1
 replace ho1 := Mr.hid ho1
 replace AP := Mr.hid AP
 clear hv
 go_enter Tryz.func5, Tryz.ntmps5
 go_upto_region 2 with (at_builtin; refine wpList_append_mine _ rfl (.tmp 4) (.tmp 5) 22 rfl (fun k => W.heap.size ≤ k) 45 i0 _ 9 72 Tryz.underlying22 hi0 hz0 hz1 hz2 rfl _ 0 [] rfl (Md.Own.zero _ _ _ _ _) a n cap (cqs cs) rfl hl1.out hs1.out (hs2.out _ ((Below.refl _ _).alloc (Nat.le_refl _) _)) ho1.out (by unfold maxLen; omega) (by omega) ?_; intro b1 cap1 w1 hown hfr; have hB1 : Below W.heap.size W w1 := ⟨hfr.os, hfr.tape, hfr.output, Nat.le_trans (by simp) hfr.size, fun k hk => (hfr.block k (by simp <;> omega) (by omega)).trans (Below.heap_alloc _ _ _ hk)⟩; replace hown := hown.mono (T := fun k => W.heap.size ≤ k) (fun k hk => by rcases hk with hk | hk; exact hk; subst hk; simp); rw [Nat.zero_add, List.nil_append] at hown; rw [Nat.zero_add]; clear hfr; replace hown := Mr.hid hown; replace hB1 := Mr.hid hB1)
 have AQ := AP.out mk77
 rw [cqs_sing] at AQ
 clear AP
 replace AQ := Mr.hid AQ
 go_wp2_with (at_builtin; (refine wpList_append_mine _ rfl (.tmp 7) (.tmp 9) 22 rfl (fun k => W.heap.size ≤ k) 45 i0 _ 9 72 Tryz.underlying22 hi0 hz0 hz1 hz2 rfl _ n (cqs cs) rfl (hown.out.below ((Below.refl _ _).alloc (Nat.le_refl _) _)) (some ⟨w1.heap.size, 0, none⟩) 1 1 mk77.row rfl rfl (fun e => by cases e) (new9 rfl) (by rw [← cqs_sing]; exact cqs_one _) (by unfold maxLen; omega) (by omega) ?_; intro b2 cap2 w2 hown2 hfr2; have hB2 : Below W.heap.size W w2 := ⟨hfr2.os.trans hB1.out.os, hfr2.tape.trans hB1.out.tape, hfr2.output.trans hB1.out.output, Nat.le_trans hB1.out.size (Nat.le_trans (by simp) hfr2.size), fun k hk => (hfr2.block k (by have := hB1.out.size; simp <;> omega) (by omega)).trans ((Below.heap_alloc _ _ _ (Nat.lt_of_lt_of_le hk hB1.out.size)).trans (hB1.out.block k hk))⟩; replace hown2 := hown2.mono (T := fun k => W.heap.size ≤ k) (fun k hk => by have := hB1.out.size; rcases hk with hk | hk; exact hk; subst hk; simp <;> omega); rw [AQ.out] at hown2; obtain ⟨_, _, e9, hc9, hm9⟩ := hown2.form; cases e9; have f1 : (0 : Int) ≤ (n : Int) := (by omega); have f2 : (n : Int) ≤ (cap2 : Int) := (by omega); clear hfr2 hown hB1; replace hown2 := Mr.hid hown2; replace hB2 := Mr.hid hB2))
 go_ret
 exact ⟨_, _, rfl, hown2.out, hB2.out⟩
set_option maxHeartbeats 8000000 in
theorem unspoilt_any {W : World} {T T' : Nat → Prop} {a : Option Addr} {cap : Nat} {v : Value} {cs : List Cq} (hl : Sl W T 9 (.slice a (cs.length + 1) cap) (cs.length + 1) (cqs (cs ++ [mk77]))) (hv : Sl W T' 9 v cs.length (cqs cs)) (hsm : cs.length * 72 ≤ 140737488351232) :
  Calls Tryz.prog 10 #[.slice a cs.length cap, v] W fun e w' => e = .returned (.bool true) ∧ Below W.heap.size W w' := by
 have hlc := sl_cut hl
 obtain ⟨av, capv, rfl, hcapv⟩ := hv.form
 obtain ⟨_, _, e9, hc9⟩ := hl.form
 cases e9
 have hlast : ∀ w, Below W.heap.size W w → ∃ b o, a = some ⟨b, o, none⟩ ∧ At9 w b (o + cs.length * 9) mk77 := fun w hB => by
  have h2 := hl.below hB
  rw [show cs.length + 1 = (cs ++ [mk77]).length from by simp] at h2
  exact call_at h2 (by simp)
 obtain ⟨n, hn⟩ : ∃ n, n = cs.length := ⟨_, rfl⟩
 rw [← hn] at hsm hcapv hc9 ⊢
 replace hn := Mr.hid hn
 replace hlc := Mr.hid hlc
 replace hv := Mr.hid hv
 replace hlast := Mr.hid hlast
 clear hl
 go_enter Tryz.func10, Tryz.ntmps10
 go_wp2
 go_loopg [5] n (fun k s5 wr => ∃ i : Nat, s5 = .int .i64 (i : Int) ∧ i + k = n ∧ Below W.heap.size W wr)
 case atStart => exact ⟨0, rfl, by omega, Below.refl _ _⟩
 case round =>
  obtain ⟨i, rfl, hi, hB⟩ := hrel
  by_cases hlt : i < n
  ·clear hlast
   obtain ⟨c, hci⟩ := get_of_lt (cs := cs) (i := i) (by have := hn.out; omega)
   obtain ⟨b1, o1, rfl, A1⟩ := call_at (hlc.out.below hB) hci
   obtain ⟨b2, o2, rfl, A2⟩ := call_at (hv.out.below hB) hci
   obtain ⟨hbl, g0, g1, g2, g3, g4, g5, g6, g7, g8⟩ := A1
   obtain ⟨hbl2, k0, k1, k2, k3, k4, k5, k6, k7, k8⟩ := A2
   have hlI : (i : Int) < (n : Int) := by omega
   have hw1 : IntKind.i64.wrap ((i : Int) + 1) = (i : Int) + 1 := i64x _ (by omega) (by omega)
   replace hB := Mr.hid hB
   replace hci := Mr.hid hci
   go_upto_region 4 with (fail)
   go_quiet (fail)
   have hBq := Mr.hid (hB.out.trans (Bx.draws _ _ nq))
   clear g0 g1 g2 g3 g4 g5 g6 g7 g8 k0 k1 k2 k3 k4 k5 k6 k7 k8 hbl hbl2 hB
   generalize wr.drewN nq = w6 at *
   go_wp2
   go_roundg (gk - 1)
   case measure => omega
   case rel => exact ⟨i + 1, by simp, by omega, hBq.out⟩
  ·obtain ⟨b1, o1, rfl, A1⟩ := hlast.out _ hB
   obtain ⟨hbl, g0, -, -, -, -, -, -, -, -⟩ := A1
   rw [← hn.out] at g0
   have dl : decide ((i : Int) < (n : Int)) = false := decide_eq_false (by omega)
   have hw1 : IntKind.i64.wrap ((n : Int) + 1) = (n : Int) + 1 := i64x _ (by omega) (by omega)
   have f1 : (0 : Int) ≤ (n : Int) + 1 := by omega
   have f2 : (n : Int) + 1 ≤ (cap : Int) := by omega
   have f3 : (n : Int) < (n : Int) + 1 := by omega
   have f4 : ((n : Int) + 1).toNat = n + 1 := by omega
   have e77 : mk77.th = -77 := rfl
   rw [e77] at g0
   replace hB := Mr.hid hB
   go_wp2
   go_ret
   exact ⟨rfl, hB.out⟩
end Go.Proofs.YtnbibkohgppjnaaGreat.Wt
