import Derived.Test.YtnbibkohgppjnaaGreatJ38
import Derived.Test.YtnbibkohgppjnaaGreatJ47
import Derived.Test.YtnbibkohgppjnaaGreatJ49
import Derived.Test.YtnbibkohgppjnaaGreatJ42
import Derived.Test.YtnbibkohgppjnaaGreatJ10
import Derived.Deep.LoopGhost
import Derived.BigQuiet
import Derived.Test.YtnbibkohgppjnaaGreatJ13
import Derived.Test.YtnbibkohgppjnaaGreatJ48
import Derived.Test.YtnbibkohgppjnaaGreatJ09
set_option linter.unusedVariables false
set_option linter.unusedSimpArgs false
set_option maxRecDepth 100000
namespace Go.Proofs.YtnbibkohgppjnaaGreat.Ws
open Go.RowKit Mr Md Wt
end Go.Proofs.YtnbibkohgppjnaaGreat.Ws
namespace Go.Proofs.YtnbibkohgppjnaaGreat.Ws
open Go.RowKit Mr Md
theorem len_le8 {cs : List Cq} (hf : ∀ c ∈ scs cs, Wt.Fit c) (h8 : (scs cs).length ≤ 8) {l : List Nat} (h : (spc (scs cs)).lm 0 ct0 = some l) : (nmo cs l).length ≤ 8 := by
 have e := (go_exp0 hf l).1 ((spc (scs cs)).lst_some _ 0 ct0 l (room_le _ _) h).1
 have h1 : l.length ≤ (scs cs).length := by
  have := List.Nodup.length_le_of_subset (l₁ := l) (l₂ := List.range (scs cs).length) e.nod (fun i hi => List.mem_range.2 (e.lt i hi))
  simpa using this
 simp [nmo]
 omega
end Go.Proofs.YtnbibkohgppjnaaGreat.Ws
namespace Go.Proofs.YtnbibkohgppjnaaGreat.Ws
open Go.RowKit Mr Md Wt
theorem ints_one9 (l : List Int) : ∀ u ∈ ints l, u.oneCell' = true := by
 intro u hu
 obtain ⟨x, _, rfl⟩ := List.mem_map.1 hu
 rfl
noncomputable def fE (cs : List Cq) : Int := if errA cs ≠ 0 then errA cs else if (fndA cs).isSome then 0 else 124
noncomputable def fL (cs : List Cq) : List Int := if errA cs ≠ 0 then [] else (fndA cs).getD []
theorem fits_of {cs : List Cq} (h : errA cs = 0) : (∀ c ∈ scs cs, Fit c) ∧ (scs cs).length ≤ 8 ∧ mayB cs = true := by
 unfold errA at h
 cases hm : mayB cs with
 | false => rw [hm] at h; simp at h
 | true =>
  rw [hm] at h
  refine ⟨scs_fit hm, ?_, rfl⟩
  by_cases h8 : 8 < (scs cs).length
  ·simp [h8] at h
  ·omega
theorem fL_len (cs : List Cq) : (fL cs).length ≤ 8 := by
 unfold fL
 split
 ·simp
 ·rename_i h
  obtain ⟨h1, h2, _⟩ := fits_of (Classical.byContradiction h)
  rw [fndA]
  cases hq : (spc (scs cs)).lm 0 ct0 with
  | none => simp
  | some l => exact len_le8 h1 h2 hq
def FdC (W : World) (cs : List Cq) (e : Ending) (w' : World) : Prop := ∃ vr, e = .returned (.tuple #[vr, .int .i64 (fE cs)]) ∧ Has w' (fun k => W.heap.size ≤ k) 3 1 vr (fL cs).length (ints (fL cs)) ∧ Below W.heap.size W w'
theorem Find_one {W : World} {T : Nat → Prop} {v : Value} {cs : List Cq} (hv : Sl W T 9 v cs.length (cqs cs)) (hsm : cs.length * 72 ≤ 281474976710656) (hwf : ∀ c ∈ cs, WfC c) :
  Calls Tryz.prog 6 #[v] W (FdC W cs) := by
 refine (Find_any hv hsm hwf).mono ?_
 rintro e w' ⟨hB, ⟨h1, rfl⟩ | ⟨h1, h2, rfl⟩ | ⟨h1, l, vr, h2, rfl, hh⟩⟩
 ·refine ⟨_, by rw [fE, if_pos h1], ?_, hB⟩
  rw [fL, if_pos h1]
  exact Has.nil _ _ _ _
 ·refine ⟨_, by rw [fE, if_neg (by simp [h1]), h2]; rfl, ?_, hB⟩
  rw [fL, if_neg (by simp [h1]), h2]
  exact Has.nil _ _ _ _
 ·refine ⟨_, by rw [fE, if_neg (by simp [h1]), h2]; rfl, ?_, hB⟩
  rw [fL, if_neg (by simp [h1]), h2]
  exact hh
end Go.Proofs.YtnbibkohgppjnaaGreat.Ws
namespace Go.Proofs.YtnbibkohgppjnaaGreat.Wt
open Go.RowKit Mr Md
theorem wt_call : (Tryz.prog.info? 45).map (fun i => (i.zero, i.size, i.bytes)) = some (some (.agg #[.int .i64 0, .int .i64 0, .int .i64 0, .int .i64 0, .int .i64 0, .int .i64 0, .int .i64 0, .int .i64 0, .int .i64 0]), 9, 72) := by kernel_rfl
def mk77 : Cq := ⟨-77, 0, 0, 0, 0, 0, 0, 0, 0⟩
theorem cqs_one (l : List Cq) : ∀ u ∈ cqs l, u.oneCell' = true := by
 intro u hu
 obtain ⟨c, _, h⟩ := List.mem_flatMap.1 hu
 simp [Cq.row] at h
 rcases h with rfl | rfl | rfl | rfl | rfl | rfl | rfl | rfl | rfl <;> rfl
theorem cqs_app (a b : List Cq) : cqs (a ++ b) = cqs a ++ cqs b := by simp [cqs]
theorem cqs_sing (c : Cq) : cqs [c] = c.row := by simp [cqs]
theorem sl_cut {W : World} {T : Nat → Prop} {a : Option Addr} {cap : Nat} {cs : List Cq} {m : Cq} (h : Sl W T 9 (.slice a (cs.length + 1) cap) (cs.length + 1) (cqs (cs ++ [m]))) : Sl W T 9 (.slice a cs.length cap) cs.length (cqs cs) := by
 obtain ⟨b, o, cap', hv, hc, hT, hl, hr⟩ := h.there (by omega)
 cases hv
 refine ⟨cqs_length _, _, cap, rfl, by omega, .inr ⟨b, o, rfl, hT, hl, fun k u hu => ?_⟩⟩
 refine hr k u ?_
 rw [cqs_app, List.getElem?_append_left (List.getElem?_eq_some_iff.1 hu).1]; exact hu
theorem new9 {w w1 : World} {c : Cq} (h1 : w1 = w.alloc (cqO c)) : ∀ ad, some (⟨w.heap.size, 0, none⟩ : Addr) = some ad → ∀ j u, (c.row)[j]? = some u → w1.cell? (ad.add j) = some u := by
 rintro ad e j u hu
 cases e
 subst h1
 have hn := new_at w (cqO c) w.heap.size rfl
 rw [add1, Nat.zero_add]
 unfold cqO at hn ⊢
 rw [cell_blk hn]
 simpa [Cq.row] using hu
theorem sl_src {w : World} {T : Nat → Prop} {size n : Nat} {a : Option Addr} {cap : Nat} {xs : List Value} (h : Sl w T size (.slice a n cap) n xs) : (a = none → n = 0) ∧ ∀ w' : World, Below w.heap.size w w' → ∀ ad, a = some ad → ∀ j u, xs[j]? = some u → w'.cell? (ad.add j) = some u := by
 obtain ⟨h1, a', cap', hv, hc, h2⟩ := h
 cases hv
 rcases h2 with rfl | ⟨b, o, rfl, hT, hl, hr⟩
 ·refine ⟨fun _ => rfl, fun w' hB ad e j u hu => ?_⟩
  have : xs = [] := List.eq_nil_of_length_eq_zero (by simpa using h1)
  subst this; simp at hu
 ·refine ⟨(fun e => by cases e), fun w' hB ad e j u hu => ?_⟩
  cases e
  rw [add1, hB.cell (p := ⟨b, _, none⟩) hl]
  exact hr j u hu
set_option maxHeartbeats 8000000 in
theorem twin_any {W : World} {T : Nat → Prop} {v : Value} {cs : List Cq} (hv : Sl W T 9 v cs.length (cqs cs)) (hsm : cs.length * 72 ≤ 140737488351232) :
  Calls Tryz.prog 5 #[v] W fun e w' => ∃ a cap, e = .returned (.slice a cs.length cap) ∧ Md.Own w' (fun k => W.heap.size ≤ k) 45 9 (.slice a (cs.length + 1) cap) (cs.length + 1) (cqs (cs ++ [mk77])) ∧ Below W.heap.size W w' := by
 obtain ⟨i0, hi0, hz0, hz1, hz2⟩ := parts_of wt_call
 obtain ⟨a, cap, rfl, hcap⟩ := hv.form
 obtain ⟨hs1, hs2⟩ := sl_src hv
 have hl1 := cqs_length cs
 have ho1 := cqs_one cs
 obtain ⟨n, hn⟩ : ∃ n, n = cs.length := ⟨_, rfl⟩
 have AP : ∀ x, cqs cs ++ cqs [x] = cqs (cs ++ [x]) := fun x => (cqs_app cs [x]).symm
 rw [← hn] at hsm hcap hs1 hl1 ⊢
 replace hn := Mr.hid hn
 replace hs1 := Mr.hid hs1
 replace hs2 := Mr.hid hs2
 replace hl1 := Mr.hid hl1
 replace ho1 := Mr.hid ho1
 replace AP := Mr.hid AP
 clear hv
 go_enter Tryz.func5, Tryz.ntmps5
 go_upto_region 2 with (at_builtin; refine wpList_append_mine _ rfl (.tmp 4) (.tmp 5) 22 rfl (fun k => W.heap.size ≤ k) 45 i0 _ 9 72 Tryz.underlying22 hi0 hz0 hz1 hz2 rfl _ 0 [] rfl (Md.Own.zero _ _ _ _ _) a n cap (cqs cs) rfl hl1.out hs1.out (hs2.out _ ((Below.refl _ _).alloc (Nat.le_refl _) _)) ho1.out (by unfold maxLen; omega) (by omega) ?_; intro b1 cap1 w1 hown hfr; have hB1 : Below W.heap.size W w1 := ⟨hfr.os, hfr.tape, hfr.output, Nat.le_trans (by simp) hfr.size, fun k hk => (hfr.block k (by simp <;> omega) (by omega)).trans (Below.heap_alloc _ _ _ hk)⟩; replace hown := hown.mono (T := fun k => W.heap.size ≤ k) (fun k hk => by rcases hk with hk | hk; exact hk; subst hk; simp); rw [Nat.zero_add, List.nil_append] at hown; rw [Nat.zero_add]; clear hfr; replace hown := Mr.hid hown; replace hB1 := Mr.hid hB1)
 have AQ := AP.out mk77
 rw [cqs_sing] at AQ
 clear AP
 replace AQ := Mr.hid AQ
 go_wp2_with (at_builtin; (refine wpList_append_mine _ rfl (.tmp 7) (.tmp 9) 22 rfl (fun k => W.heap.size ≤ k) 45 i0 _ 9 72 Tryz.underlying22 hi0 hz0 hz1 hz2 rfl _ n (cqs cs) rfl (hown.out.below ((Below.refl _ _).alloc (Nat.le_refl _) _)) (some ⟨w1.heap.size, 0, none⟩) 1 1 mk77.row rfl rfl (fun e => by cases e) (new9 rfl) (by rw [← cqs_sing]; exact cqs_one _) (by unfold maxLen; omega) (by omega) ?_; intro b2 cap2 w2 hown2 hfr2; have hB2 : Below W.heap.size W w2 := ⟨hfr2.os.trans hB1.out.os, hfr2.tape.trans hB1.out.tape, hfr2.output.trans hB1.out.output, Nat.le_trans hB1.out.size (Nat.le_trans (by simp) hfr2.size), fun k hk => (hfr2.block k (by have := hB1.out.size; simp <;> omega) (by omega)).trans ((Below.heap_alloc _ _ _ (Nat.lt_of_lt_of_le hk hB1.out.size)).trans (hB1.out.block k hk))⟩; replace hown2 := hown2.mono (T := fun k => W.heap.size ≤ k) (fun k hk => by have := hB1.out.size; rcases hk with hk | hk; exact hk; subst hk; simp <;> omega); rw [AQ.out] at hown2; obtain ⟨_, _, e9, hc9, hm9⟩ := hown2.form; cases e9; have f1 : (0 : Int) ≤ (n : Int) := (by omega); have f2 : (n : Int) ≤ (cap2 : Int) := (by omega); clear hfr2 hown hB1; replace hown2 := Mr.hid hown2; replace hB2 := Mr.hid hB2))
 go_ret
 exact ⟨_, _, rfl, hown2.out, hB2.out⟩
set_option maxHeartbeats 8000000 in
theorem unspoilt_any {W : World} {T T' : Nat → Prop} {a : Option Addr} {cap : Nat} {v : Value} {cs : List Cq} (hl : Sl W T 9 (.slice a (cs.length + 1) cap) (cs.length + 1) (cqs (cs ++ [mk77]))) (hv : Sl W T' 9 v cs.length (cqs cs)) (hsm : cs.length * 72 ≤ 140737488351232) :
  Calls Tryz.prog 10 #[.slice a cs.length cap, v] W fun e w' => e = .returned (.bool true) ∧ Below W.heap.size W w' := by
 have hlc := sl_cut hl
 obtain ⟨av, capv, rfl, hcapv⟩ := hv.form
 obtain ⟨_, _, e9, hc9⟩ := hl.form
 cases e9
 have hlast : ∀ w, Below W.heap.size W w → ∃ b o, a = some ⟨b, o, none⟩ ∧ At9 w b (o + cs.length * 9) mk77 := fun w hB => by
  have h2 := hl.below hB
  rw [show cs.length + 1 = (cs ++ [mk77]).length from by simp] at h2
  exact call_at h2 (by simp)
 obtain ⟨n, hn⟩ : ∃ n, n = cs.length := ⟨_, rfl⟩
 rw [← hn] at hsm hcapv hc9 ⊢
 replace hn := Mr.hid hn
 replace hlc := Mr.hid hlc
 replace hv := Mr.hid hv
 replace hlast := Mr.hid hlast
 clear hl
 go_enter Tryz.func10, Tryz.ntmps10
 go_wp2
 go_loopg [5] n (fun k s5 wr => ∃ i : Nat, s5 = .int .i64 (i : Int) ∧ i + k = n ∧ Below W.heap.size W wr)
 case atStart => exact ⟨0, rfl, by omega, Below.refl _ _⟩
 case round =>
  obtain ⟨i, rfl, hi, hB⟩ := hrel
  by_cases hlt : i < n
  ·clear hlast
   obtain ⟨c, hci⟩ := get_of_lt (cs := cs) (i := i) (by have := hn.out; omega)
   obtain ⟨b1, o1, rfl, A1⟩ := call_at (hlc.out.below hB) hci
   obtain ⟨b2, o2, rfl, A2⟩ := call_at (hv.out.below hB) hci
   obtain ⟨hbl, g0, g1, g2, g3, g4, g5, g6, g7, g8⟩ := A1
   obtain ⟨hbl2, k0, k1, k2, k3, k4, k5, k6, k7, k8⟩ := A2
   have hlI : (i : Int) < (n : Int) := by omega
   have hw1 : IntKind.i64.wrap ((i : Int) + 1) = (i : Int) + 1 := i64x _ (by omega) (by omega)
   replace hB := Mr.hid hB
   replace hci := Mr.hid hci
   go_upto_region 4 with (fail)
   go_quiet (fail)
   have hBq := Mr.hid (hB.out.trans (Bx.draws _ _ nq))
   clear g0 g1 g2 g3 g4 g5 g6 g7 g8 k0 k1 k2 k3 k4 k5 k6 k7 k8 hbl hbl2 hB
   generalize wr.drewN nq = w6 at *
   go_wp2
   go_roundg (gk - 1)
   case measure => omega
   case rel => exact ⟨i + 1, by simp, by omega, hBq.out⟩
  ·obtain ⟨b1, o1, rfl, A1⟩ := hlast.out _ hB
   obtain ⟨hbl, g0, -, -, -, -, -, -, -, -⟩ := A1
   rw [← hn.out] at g0
   have dl : decide ((i : Int) < (n : Int)) = false := decide_eq_false (by omega)
   have hw1 : IntKind.i64.wrap ((n : Int) + 1) = (n : Int) + 1 := i64x _ (by omega) (by omega)
   have f1 : (0 : Int) ≤ (n : Int) + 1 := by omega
   have f2 : (n : Int) + 1 ≤ (cap : Int) := by omega
   have f3 : (n : Int) < (n : Int) + 1 := by omega
   have f4 : ((n : Int) + 1).toNat = n + 1 := by omega
   have e77 : mk77.th = -77 := rfl
   rw [e77] at g0
   replace hB := Mr.hid hB
   go_wp2
   go_ret
   exact ⟨rfl, hB.out⟩
end Go.Proofs.YtnbibkohgppjnaaGreat.Wt
namespace Go.Proofs.YtnbibkohgppjnaaGreat.Md
open Go.RowKit Mr
section
variable {P : Program} (w : World)
def Kept (w w' : World) (size : Nat) (v : Value) (n : Nat) (b' : Option Addr) : Prop :=
 (∀ k j, k < w.heap.size → (∀ o cap, v = .slice (some ⟨k, o, none⟩) n cap → cap ≠ 0 → j < o + n * size) → w'.cell? ⟨k, j, none⟩ = w.cell? ⟨k, j, none⟩) ∧ ((∃ cap, v = .slice b' n cap ∧ cap ≠ 0) ∨ ∃ o, b' = some ⟨w.heap.size, o, none⟩)
theorem kept_alloc (o : Obj) (size : Nat) (v : Value) (n : Nat) (off : Nat) : Kept w (w.drew.alloc o) size v n (some ⟨w.heap.size, off, none⟩) := by
 refine ⟨fun k j hk _ => ?_, .inr ⟨off, rfl⟩⟩
 have h : (w.drew.alloc o).heap[k]? = w.heap[k]? := Below.heap_alloc w.drew o k hk
 simp only [World.cell?, h]
theorem run_append_keep (S : Nat → Prop) (t ty e : TypeId) (i : TypeInfo) (z : Value) (size bytes : Nat) (ht : P.underlying t = some (.slice e)) (hi : P.info? e = some i) (hz : i.zero = some z)
  (hsize : i.size = size) (hby : i.bytes = bytes) (hzs : z.cells.size = size) (v : Value) (n : Nat) (xs : List Value) (hown : Own w S e size v n xs) (a : Addr) (m c : Nat) (hm : 0 < m) (news : List Value) (hl : news.length = m * size) (hnews : ∀ j u, news[j]? = some u → w.cell? (a.add j) = some u)
  (h1 : ∀ u ∈ news, u.oneCell' = true) (h63 : n + m ≤ maxLen) (hbytes : ((n + m) + (n + m) / 4 + 192) * bytes ≤ 281474976710656) :
  ∃ b' cap' w', (Builtin.append_ #[t, t] ty #[v, .slice (some a) m c]).run P w = .ok (.slice b' (n + m) cap') w' ∧ Own w' (fun k => S k ∨ k = w.heap.size) e size (.slice b' (n + m) cap') (n + m) (xs ++ news) ∧ Fr w w' S ∧ Kept w w' size v n b' := by
 subst hsize
 subst hby
 have hsmall : n + m ≤ 9223372036854775807 := by simp only [maxLen] at h63; omega
 have hlen : (xs ++ news).length = (n + m) * i.size := by rw [List.length_append, hown.1, hl, Nat.add_mul]
 have hfr : ∀ o, Fr w (w.drew.alloc o) S := fun o => (Fr.refl w S).drew.alloc o
 obtain ⟨hx1, b0, cap, rfl, hc, hcm, h2⟩ := hown
 rcases h2 with rfl | ⟨g, o, cur, rfl, hS, hg, hs, hx⟩
 ·obtain rfl : n = 0 := by omega
  have hx : xs = [] := List.eq_nil_of_length_eq_zero (by simpa using hx1)
  subst hx
  have hgr := grown_has w e i.size z hzs (0 + m) 0 h63 (fun k => S k ∨ k = w.heap.size) (.inr rfl) ([] ++ news) hlen #[] news.toArray (by simp) none
  have hbz : Builtin.nextslicecap m 0 * i.bytes ≤ 281474976710656 := by rw [Nat.zero_add] at hbytes; exact growslice_fits_wide (by omega) hbytes
  cases b0 with
  | none =>
   have hr := run_append_nil (P := P) w t ty e i z ht hi hz a m c news hl hnews (by omega) (by omega) (by
    refine Nat.le_trans (Nat.mul_le_mul_right _ ?_) hbytes; omega)
   simp only [Nat.zero_add, List.nil_append, Array.empty_append] at hgr ⊢
   exact ⟨_, _, _, hr, Own.of_has hgr.1, hfr _, kept_alloc w _ _ _ _ _⟩
  | some b =>
   have hr := run_append_grow (P := P) w t ty e i z ht hi hz b 0 0 [] (by simp) (fun j u hu => by simp at hu) a m c news hl hnews (by omega) (by omega) (by simpa using hbz)
   simp only [Nat.zero_add, List.nil_append] at hgr hr ⊢
   exact ⟨_, _, _, hr, Own.of_has hgr.1, hfr _, kept_alloc w _ _ _ _ _⟩
 ·by_cases hroom : n + m ≤ cap
  ·have hmul : (n + m) * i.size ≤ cap * i.size := Nat.mul_le_mul_right _ hroom
   rw [Nat.add_mul] at hmul
   have hfit : o + n * i.size + news.length ≤ cur.size := by omega
   have hr := run_append_at (P := P) w t ty e e i ht hi g o n cap cur hg a m c news hl hnews h1 hroom hfit
   refine ⟨_, _, _, hr, ⟨hlen, _, cap, rfl, hroom, hcm, .inr ⟨g, o, _, rfl, .inl hS, setRow_heap w g cur _ e _ hg, ?_, ?_⟩⟩, setRow_fr hS _, ?_, .inl ⟨cap, rfl, by omega⟩⟩
   ·have := seg_len cur.toList o (n * i.size) news (by simpa using hfit)
    simp only [List.size_toArray]
    rw [this]
    simpa using hs
   ·rw [Nat.add_mul, ← hl]
    exact seg_put cur.toList o (n * i.size) news xs hx hx1 (by simpa using hfit)
   ·intro k j hk hj
    by_cases hkg : k = g
    ·subst hkg
     have hj := hj o cap rfl (by omega)
     rw [cell_of_row _ k j _ e _ (setRow_heap w k cur _ e _ hg), cell_of_row w k j cur e _ hg]
     simp only [List.getElem?_toArray]
     rw [List.append_assoc, List.getElem?_append_left (by rw [List.length_take, Array.length_toList]; omega), List.getElem?_take, if_pos hj]
     simp
    ·simp [World.cell?, setRow_other w g k _ hkg]
  ·have holds : ∀ j u, xs[j]? = some u → w.cell? ((⟨g, o, none⟩ : Addr).add j) = some u := fun j u hu => by
    rw [add1]; exact own_cells hg hx j u hu
   have hr := run_append_grow (P := P) w t ty e i z ht hi hz ⟨g, o, none⟩ n cap xs hx1 holds a m c news hl hnews (by omega) (by omega) (growslice_fits_wide (by omega) hbytes)
   have hgr := grown_has w e i.size z hzs (n + m) cap h63 (fun k => S k ∨ k = w.heap.size) (.inr rfl) (xs ++ news) hlen xs.toArray news.toArray (by simp) none
   exact ⟨_, _, _, hr, Own.of_has hgr.1, hfr _, kept_alloc w _ _ _ _ _⟩
theorem wpList_append_keep {ops : Array Oper} {rest : List Oper} {o : Oper} {a : Act} {Q : Exit → Act → World → Prop} (hgd : o.guard = none) (s x : Operand) (t : TypeId)
  (ho : o.op = .call { callee := .builtin .append, args := #[s, x], argTypes := #[t, t] })
  (S : Nat → Prop) (e : TypeId) (i : TypeInfo) (z : Value) (size bytes : Nat) (ht : P.underlying t = some (.slice e)) (hi : P.info? e = some i) (hz : i.zero = some z)
  (hsize : i.size = size) (hby : i.bytes = bytes) (hzs : z.cells.size = size) (v : Value) (n : Nat) (xs : List Value) (hs : a.eval s = v) (hown : Own w S e size v n xs) (a0 : Addr) (m c : Nat) (hm : 0 < m) (news : List Value) (hx : a.eval x = .slice (some a0) m c) (hl : news.length = m * size) (hnews : ∀ j u, news[j]? = some u → w.cell? (a0.add j) = some u)
  (h1 : ∀ u ∈ news, u.oneCell' = true) (h63 : n + m ≤ maxLen) (hbytes : ((n + m) + (n + m) / 4 + 192) * bytes ≤ 281474976710656)
  (h : ∀ b' cap' w', Own w' (fun k => S k ∨ k = w.heap.size) e size (.slice b' (n + m) cap') (n + m) (xs ++ news) → Fr w w' S → Kept w w' size v n b' → wpList P ops Q rest (a.put o.dst (.slice b' (n + m) cap')) w') : wpList P ops Q (o :: rest) a w :=
 wpList_plain hgd fun _ hK => by
  obtain ⟨b', cap', w', hr, h2, h3, h4⟩ := run_append_keep (P := P) w S t o.type e i z size bytes ht hi hz hsize hby hzs v n xs hown a0 m c hm news hl hnews h1 h63 hbytes
  unfold Oper.wp execOp
  simp only [ho, resolve, invoke, builtin, Sem.run_bind, Sem.run_pure, Result.andThen_ok, List.map_toArray, List.map_cons, List.map_nil, hs, hx, hr]
  exact hK _ _ (h b' cap' w' h2 h3 h4)
end
structure Gr (w : World) (S : Nat → Prop) (e : TypeId) (size : Nat) (v0 : Value) (n0 : Nat) (xs0 : List Value) (v : Value) (n : Nat) : Prop where
 own : ∃ xs, Own w S e size v n xs
 old : Sl w S size v0 n0 xs0
 rel : n0 ≠ 0 → ∀ g o cap, v = .slice (some ⟨g, o, none⟩) n cap → cap ≠ 0 → ∀ o0 cap0, v0 = .slice (some ⟨g, o0, none⟩) n0 cap0 → o0 + n0 * size ≤ o + n * size
section
variable {w w' : World} {S T : Nat → Prop} {e : TypeId} {size n0 n : Nat} {v0 v : Value} {xs0 : List Value}
theorem Gr.first (h : Own w S e size v0 n0 xs0) : Gr w S e size v0 n0 xs0 v0 n0 :=
 ⟨⟨_, h⟩, h.sl, fun _ g o cap hv _ o0 cap0 hv0 => by rw [hv0] at hv; cases hv; exact Nat.le_refl _⟩
theorem Gr.fr (h : Gr w S e size v0 n0 xs0 v n) (hf : Fr w w' T) (hd : ∀ k, S k → k < w.heap.size → ¬ T k) : Gr w' S e size v0 n0 xs0 v n :=
 ⟨by obtain ⟨xs, hx⟩ := h.own; exact ⟨xs, hx.fr hf hd⟩, h.old.fr hf hd, h.rel⟩
theorem Gr.mono (h : Gr w S e size v0 n0 xs0 v n) (hT : ∀ k, S k → T k) : Gr w T e size v0 n0 xs0 v n :=
 ⟨by obtain ⟨xs, hx⟩ := h.own; exact ⟨xs, hx.mono hT⟩, h.old.mono hT, h.rel⟩
theorem Gr.app (h : Gr w S e size v0 n0 xs0 v n) {b' : Option Addr} {cap' m : Nat} {ys : List Value} (ho : Own w' (fun k => S k ∨ k = w.heap.size) e size (.slice b' (n + m) cap') (n + m) ys) (hf : Fr w w' S) (hk : Kept w w' size v n b') : Gr w' (fun k => S k ∨ k = w.heap.size) e size v0 n0 xs0 (.slice b' (n + m) cap') (n + m) := by
 refine ⟨⟨ys, ho⟩, ?_, ?_⟩
 ·obtain ⟨h1, a, cap, hv, hc, h2⟩ := h.old
  refine ⟨h1, a, cap, hv, hc, ?_⟩
  rcases h2 with h2 | ⟨b, o, ha, hb, hl, hr⟩
  ·exact .inl h2
  ·by_cases hn : n0 = 0
   ·exact .inl hn
   ·refine .inr ⟨b, o, ha, .inl hb, Nat.lt_of_lt_of_le hl hf.size, fun j u hu => ?_⟩
    have hj : j < n0 * size := by rw [← h1]; exact (List.getElem?_eq_some_iff.1 hu).1
    rw [hk.1 b (o + j) hl (fun o' c' hv' hc' => by have := h.rel hn b o' c' hv' hc' o cap (by rw [hv, ha]); omega)]
    exact hr j u hu
 ·intro hn g o cap hv hc o0 cap0 hv0
  cases hv
  rcases hk.2 with ⟨c, hv1, hc1⟩ | ⟨o', hb⟩
  ·have := h.rel hn g o c hv1 hc1 o0 cap0 hv0
   rw [Nat.add_mul]; omega
  ·cases hb
   obtain ⟨b, o2, c2, hv2, _, _, hl, _⟩ := h.old.there (by omega)
   rw [hv2] at hv0
   cases hv0
   omega
theorem own_inb {xs : List Value} (h : Own w S e size v n xs) : Own w (fun k => S k ∧ k < w.heap.size) e size v n xs := by
 obtain ⟨h1, a, cap, hv, hc, hm, h2⟩ := h
 refine ⟨h1, a, cap, hv, hc, hm, h2.imp id ?_⟩
 rintro ⟨g, o, cur, ha, hS, hg, hs, hx⟩
 exact ⟨g, o, cur, ha, ⟨hS, (Array.getElem?_eq_some_iff.1 hg).1⟩, hg, hs, hx⟩
end
end Go.Proofs.YtnbibkohgppjnaaGreat.Md
namespace Go.Proofs.YtnbibkohgppjnaaGreat.Ws
open Go.RowKit Mr Md Wt
def lab (LO HI : Nat → Nat) (j k : Nat) : Prop := LO j ≤ k ∧ k < HI j
structure Fs (W w : World) (B0 top t2 ba : Nat) (a : Option Addr) (cap : Nat) (cs : List Cq) (V : Nat → Value) (LO HI : Nat → Nat) (vw vp : Value) (fl pl : List Int) : Prop where
 bel : Below W.heap.size W w
 tw : Md.Own w (fun k => W.heap.size ≤ k ∧ k < B0) 45 9 (.slice a (cs.length + 1) cap) (cs.length + 1) (cqs (cs ++ [mk77]))
 al : w.heap[ba]? = some (.cells #[V 0, V 1, V 2, V 3] 24 (0, 0))
 want : Sl w (fun k => top ≤ k ∧ k < t2) 1 vw fl.length (ints fl)
 pts : Sl w (fun k => top ≤ k ∧ k < t2) 1 vp pl.length (ints pl)
 h0 : W.heap.size ≤ B0
 h1 : B0 ≤ top
 h2 : top ≤ ba ∧ ba < t2 ∧ t2 ≤ w.heap.size
 rng : ∀ j, j < 4 → B0 ≤ LO j ∧ HI j ≤ top
 sep : ∀ i j, i < j → j < 4 → HI i ≤ LO j
section
variable {W w w' : World} {B0 top t2 ba cap : Nat} {a : Option Addr} {cs : List Cq} {V : Nat → Value} {LO HI : Nat → Nat} {vw vp : Value} {fl pl : List Int}
theorem Fs.fr (h : Fs W w B0 top t2 ba a cap cs V LO HI vw vp fl pl) {S : Nat → Prop} (hf : Fr w w' S) (hS : ∀ k, S k → (B0 ≤ k ∧ k < top) ∨ t2 ≤ k) : Fs W w' B0 top t2 ba a cap cs V LO HI vw vp fl pl := by
 have h0 := h.h0
 have h1 := h.h1
 have h2 := h.h2
 have hs := h.bel.size
 refine ⟨⟨hf.os.trans h.bel.os, hf.tape.trans h.bel.tape, hf.output.trans h.bel.output, Nat.le_trans h.bel.size hf.size, fun k hk => (hf.block k (by omega) (fun e => by have := hS k e; omega)).trans (h.bel.block k hk)⟩, h.tw.fr hf (fun k hk _ e => by have := hS k e; omega), (hf.block ba (by omega) (fun e => by have := hS ba e; omega)).trans h.al, h.want.fr hf (fun k hk _ e => by have := hS k e; omega), h.pts.fr hf (fun k hk _ e => by have := hS k e; omega), h0, h1, ⟨h2.1, h2.2.1, Nat.le_trans h2.2.2 hf.size⟩, h.rng, h.sep⟩
theorem Fs.below (h : Fs W w B0 top t2 ba a cap cs V LO HI vw vp fl pl) (hB : Below w.heap.size w w') : Fs W w' B0 top t2 ba a cap cs V LO HI vw vp fl pl := h.fr (S := fun _ => False) (Fr.of_below hB) (fun _ e => e.elim)
theorem Fs.at (h : Fs W w B0 top t2 ba a cap cs V LO HI vw vp fl pl) {j : Nat} (hj : j < 4) : w.cell? ⟨ba, j, none⟩ = some (V j) ∧ ba < w.heap.size := by
 refine ⟨?_, (Array.getElem?_eq_some_iff.1 h.al).1⟩
 rw [cell_blk h.al]
 have : j = 0 ∨ j = 1 ∨ j = 2 ∨ j = 3 := by omega
 rcases this with rfl | rfl | rfl | rfl <;> rfl
theorem Fs.not (h : Fs W w B0 top t2 ba a cap cs V LO HI vw vp fl pl) {i j k : Nat} (hi : i < 4) (hj : j < 4) (hij : i ≠ j) (hk : lab LO HI i k) : ¬ lab LO HI j k := by
 intro e
 unfold lab at hk e
 rcases Nat.lt_or_ge i j with q | q
 ·have := h.sep i j q hj; omega
 ·have := h.sep j i (by omega) hi; omega
theorem Fs.in (h : Fs W w B0 top t2 ba a cap cs V LO HI vw vp fl pl) {i k : Nat} (hi : i < 4) (hk : lab LO HI i k) : B0 ≤ k ∧ k < top := by
 have := h.rng i hi
 unfold lab at hk
 omega
end
def XI (L : Nat → List Int) (i k j : Nat) : List Int := if j < i then List.replicate (L j).length (1000 + (j : Int)) else if j = i then List.replicate k (1000 + (i : Int)) ++ (L j).drop k else L j
def rp (L : Nat → List Int) (j : Nat) : List Int := List.replicate (L j).length (1000 + (j : Int))
theorem XI_zero (L : Nat → List Int) : XI L 0 0 = L := by
 funext j
 unfold XI
 rw [if_neg (by omega)]
 split <;> simp
theorem XI_next (L : Nat → List Int) (i : Nat) : XI L i (L i).length = XI L (i + 1) 0 := by
 funext j
 unfold XI
 by_cases h1 : j < i
 ·rw [if_pos h1, if_pos (by omega)]
 ·rw [if_neg h1]
  by_cases h2 : j = i
  ·subst h2
   rw [if_pos rfl, if_pos (by omega)]
   simp
  ·rw [if_neg h2, if_neg (by omega)]
   split <;> simp
theorem XI_put (L : Nat → List Int) {i k : Nat} (hk : k < (L i).length) : (fun j => if j = i then (XI L i k i).set k (1000 + (i : Int)) else XI L i k j) = XI L i (k + 1) := by
 funext j
 by_cases h : j = i
 ·subst h
  simp only [if_true]
  unfold XI
  rw [if_neg (by omega), if_pos rfl, if_neg (by omega), if_pos rfl]
  apply List.ext_getElem?
  intro m
  rw [List.getElem?_set]
  by_cases hm : k = m
  ·subst hm
   rw [if_pos rfl]
   rw [List.getElem?_append_left (by simp)]
   simp
   omega
  ·rw [if_neg hm]
   by_cases hlt : m < k
   ·rw [List.getElem?_append_left (by simpa using hlt), List.getElem?_append_left (by simp; omega), List.getElem?_replicate, List.getElem?_replicate, if_pos hlt, if_pos (by omega)]
   ·rw [List.getElem?_append_right (by simp; omega), List.getElem?_append_right (by simp; omega)]
    simp only [List.length_replicate, List.getElem?_drop]
    congr 1
    omega
 ·simp only [h, if_false]
  unfold XI
  by_cases h1 : j < i
  ·rw [if_pos h1, if_pos h1]
  ·rw [if_neg h1, if_neg h, if_neg h1, if_neg h]
theorem XI_end (L : Nat → List Int) {j : Nat} (hj : j < 4) : XI L 4 0 j = rp L j := by
 unfold XI rp
 rw [if_pos hj]
def Rw (w : World) (V : Nat → Value) (L : Nat → List Int) (LO HI : Nat → Nat) (X : Nat → List Int) : Prop := ∀ j, j < 4 → Md.Own w (lab LO HI j) 3 1 (V j) (L j).length (ints (X j))
theorem ints_set (l : List Int) (k : Nat) (x : Int) : (ints l).set k (.int .i64 x) = ints (l.set k x) := by simp [ints, List.map_set]
section
variable {W w w' : World} {B0 top t2 ba cap : Nat} {a : Option Addr} {cs : List Cq} {V : Nat → Value} {LO HI : Nat → Nat} {vw vp : Value} {fl pl : List Int} {L : Nat → List Int} {X : Nat → List Int}
theorem Rw.fr (h : Rw w V L LO HI X) {S : Nat → Prop} (hf : Fr w w' S) (hS : ∀ j k, j < 4 → lab LO HI j k → ¬ S k) : Rw w' V L LO HI X := fun j hj => (h j hj).fr hf (fun k hk _ => hS j k hj hk)
theorem Rw.put (hF : Fs W w B0 top t2 ba a cap cs V LO HI vw vp fl pl) (h : Rw w V L LO HI X) {i k g o c : Nat} (hi : i < 4) (hk : k < (L i).length) (hv : V i = .slice (some ⟨g, o, none⟩) (L i).length c) (x : Int) :
  Fs W (w.setCell ⟨g, o + k, none⟩ (.int .i64 x)) B0 top t2 ba a cap cs V LO HI vw vp fl pl ∧ Rw (w.setCell ⟨g, o + k, none⟩ (.int .i64 x)) V L LO HI (fun j => if j = i then (X i).set k x else X j) := by
 have hO := h i hi
 have hg : lab LO HI i g := by
  obtain ⟨g', o', c', cur, e, _, _, hS, _⟩ := hO.there (by omega)
  rw [hv] at e
  cases e
  exact hS
 have hfr : Fr w (w.setCell ⟨g, o + k, none⟩ (.int .i64 x)) (fun q => q = g) := (Fr.refl w _).setCell _ _ (.inl rfl)
 refine ⟨hF.fr hfr (fun q hq => by subst hq; exact .inl (hF.in hi hg)), fun j hj => ?_⟩
 by_cases e : j = i
 ·subst e
  simp only [if_true]
  rw [hv] at hO ⊢
  rw [← ints_set]
  exact hO.put (by omega) (by omega) _
 ·simp only [e, if_false]
  exact (h j hj).fr hfr (fun q hq _ eq => by subst eq; exact hF.not hi hj (fun x => e x.symm) hg hq)
end
structure Rb (w : World) (V : Nat → Value) (L : Nat → List Int) (LO HI : Nat → Nat) (t2 i : Nat) (x : Value) (k : Nat) : Prop where
 own : ∀ j, i < j → j < 4 → Md.Own w (lab LO HI j) 3 1 (V j) (L j).length (ints (rp L j))
 sl : ∀ j, j < 4 → j ≠ i → Sl w (lab LO HI j) 1 (V j) (L j).length (ints (rp L j))
 gr : Gr w (fun q => lab LO HI i q ∨ t2 ≤ q) 3 1 (V i) (L i).length (ints (rp L i)) x ((L i).length + k)
structure Ra (w : World) (V : Nat → Value) (L : Nat → List Int) (LO HI : Nat → Nat) (i : Nat) : Prop where
 own : ∀ j, i ≤ j → j < 4 → Md.Own w (lab LO HI j) 3 1 (V j) (L j).length (ints (rp L j))
 sl : ∀ j, j < 4 → Sl w (lab LO HI j) 1 (V j) (L j).length (ints (rp L j))
def Vl (V : Nat → Value) (L : Nat → List Int) (LO HI : Nat → Nat) : Prop := ∀ j, j < 4 → ∀ b o c, V j = .slice (some ⟨b, o, none⟩) (L j).length c → (L j).length ≠ 0 → lab LO HI j b
theorem sl_lab {w : World} {S T : Nat → Prop} {size n : Nat} {v : Value} {xs : List Value} (h : Sl w S size v n xs) (hb : ∀ b o c, v = .slice (some ⟨b, o, none⟩) n c → n ≠ 0 → T b) : Sl w T size v n xs := by
 obtain ⟨h1, a, cap, hv, hc, h2⟩ := h
 refine ⟨h1, a, cap, hv, hc, ?_⟩
 by_cases hn : n = 0
 ·exact .inl hn
 ·rcases h2 with h2 | ⟨b, o, rfl, _, hl, hr⟩
  ·exact absurd h2 hn
  ·exact .inr ⟨b, o, rfl, hb b o cap hv hn, hl, hr⟩
section
variable {W w w' : World} {B0 top t2 ba cap : Nat} {a : Option Addr} {cs : List Cq} {V : Nat → Value} {LO HI : Nat → Nat} {vw vp : Value} {fl pl : List Int} {L : Nat → List Int} {X : Nat → List Int}
theorem Rw.vl (h : Rw w V L LO HI X) : Vl V L LO HI := fun j hj b o c hv hn => by
 obtain ⟨g', o', c', cur, e, _, _, hS, _⟩ := (h j hj).there (by omega)
 rw [hv] at e
 cases e
 exact hS
theorem Rw.ra (h : Rw w V L LO HI (XI L 4 0)) : Ra w V L LO HI 0 :=
 ⟨fun j _ hj => by have := h j hj; rw [XI_end L hj] at this; exact this, fun j hj => by have := (h j hj).sl; rw [XI_end L hj] at this; exact this⟩
theorem Ra.first {i : Nat} (h : Ra w V L LO HI i) (hi : i < 4) (t2 : Nat) : Rb w V L LO HI t2 i (V i) 0 :=
 ⟨fun j hj hj4 => h.own j (by omega) hj4, fun j hj _ => h.sl j hj, by have := (Gr.first (h.own i (Nat.le_refl _) hi)).mono (T := fun q => lab LO HI i q ∨ t2 ≤ q) (fun q hq => .inl hq); rw [Nat.add_zero]; exact this⟩
theorem Rb.last {i k : Nat} {x : Value} (h : Rb w V L LO HI t2 i x k) (hi : i < 4) (hV : Vl V L LO HI) : Ra w V L LO HI (i + 1) :=
 ⟨fun j hj hj4 => h.own j (by omega) hj4, fun j hj => by
  by_cases e : j = i
  ·subst e; exact sl_lab h.gr.old (hV j hj)
  ·exact h.sl j hj e⟩
theorem Rb.below {i k : Nat} {x : Value} (h : Rb w V L LO HI t2 i x k) (hB : Below w.heap.size w w') : Rb w' V L LO HI t2 i x k :=
 ⟨fun j hj hj4 => (h.own j hj hj4).below hB, fun j hj e => (h.sl j hj e).below hB, h.gr.fr (T := fun _ => False) (Fr.of_below hB) (fun _ _ _ e => e)⟩
theorem Ra.below {i : Nat} (h : Ra w V L LO HI i) (hB : Below w.heap.size w w') : Ra w' V L LO HI i :=
 ⟨fun j hj hj4 => (h.own j hj hj4).below hB, fun j hj => (h.sl j hj).below hB⟩
theorem Rb.app {i k : Nat} {x : Value} (hF : Fs W w B0 top t2 ba a cap cs V LO HI vw vp fl pl) (h : Rb w V L LO HI t2 i x k) (hi : i < 4) {b' : Option Addr} {c' : Nat} {ys : List Value}
  (ho : Md.Own w' (fun q => (lab LO HI i q ∨ t2 ≤ q) ∨ q = w.heap.size) 3 1 (.slice b' ((L i).length + k + 1) c') ((L i).length + k + 1) ys) (hf : Fr w w' (fun q => lab LO HI i q ∨ t2 ≤ q)) (hk : Kept w w' 1 x ((L i).length + k) b') :
  Fs W w' B0 top t2 ba a cap cs V LO HI vw vp fl pl ∧ Rb w' V L LO HI t2 i (.slice b' ((L i).length + k + 1) c') (k + 1) := by
 have h2 := hF.h2
 have hdis : ∀ j q, j < 4 → j ≠ i → lab LO HI j q → q < w.heap.size → ¬ (lab LO HI i q ∨ t2 ≤ q) := fun j q hj e hq _ hh => by
  have := hF.in hj hq
  rcases hh with hh | hh
  ·exact hF.not hj hi e hq hh
  ·omega
 refine ⟨hF.fr hf (fun q hq => hq.imp (fun z => hF.in hi z) id), fun j hj hj4 => (h.own j hj hj4).fr hf (fun q hq hl => hdis j q hj4 (by omega) hq hl), fun j hj e => (h.sl j hj e).fr hf (fun q hq hl => hdis j q hj e hq hl), ?_⟩
 have := (h.gr.app ho hf hk).mono (T := fun q => lab LO HI i q ∨ t2 ≤ q) (fun q hq => by
  rcases hq with hq | hq
  ·exact hq
  ·right; omega)
 exact this
end
theorem sl_both {w : World} {S T : Nat → Prop} {size n : Nat} {v : Value} {xs : List Value} (h : Sl w S size v n xs) (h' : Sl w T size v n xs) : Sl w (fun k => S k ∧ T k) size v n xs := by
 refine sl_lab h (fun b o c hv hn => ?_)
 obtain ⟨b1, o1, c1, e1, _, t1, _⟩ := h.there (by omega)
 obtain ⟨b2, o2, c2, e2, _, t2, _⟩ := h'.there (by omega)
 rw [hv] at e1 e2
 cases e1
 cases e2
 exact ⟨t1, t2⟩
def four {α : Type} (a b c d : α) : Nat → α
 | 0 => a
 | 1 => b
 | 2 => c
 | _ => d
theorem all4 {p : Nat → Prop} (h0 : p 0) (h1 : p 1) (h2 : p 2) (h3 : p 3) : ∀ j, j < 4 → p j := by
 intro j hj
 have : j = 0 ∨ j = 1 ∨ j = 2 ∨ j = 3 := by omega
 rcases this with rfl | rfl | rfl | rfl
 ·exact h0
 ·exact h1
 ·exact h2
 ·exact h3
theorem rows_first {W w : World} {B0 z3 z4 z5 z6 top t2 ba cap : Nat} {a : Option Addr} {cs : List Cq} {va vb vp vq ww wp : Value} {fl pl : List Int} (hB : Below W.heap.size W w)
  (htw : Md.Own w (fun k => W.heap.size ≤ k ∧ k < B0) 45 9 (.slice a (cs.length + 1) cap) (cs.length + 1) (cqs (cs ++ [mk77])))
  (h1 : Md.Own w (fun k => B0 ≤ k ∧ k < z3) 3 1 va fl.length (ints fl)) (h2 : Md.Own w (fun k => z3 ≤ k ∧ k < z4) 3 1 vb fl.length (ints fl))
  (h3 : Md.Own w (fun k => z4 ≤ k ∧ k < z5) 3 1 vp pl.length (ints pl)) (h4 : Md.Own w (fun k => z5 ≤ k ∧ k < z6) 3 1 vq pl.length (ints pl))
  (hw : Sl w (fun k => top ≤ k ∧ k < t2) 1 ww fl.length (ints fl)) (hp : Sl w (fun k => top ≤ k ∧ k < t2) 1 wp pl.length (ints pl))
  (hal : w.heap[ba]? = some (.cells #[va, vb, vp, vq] 24 (0, 0))) (g0 : W.heap.size ≤ B0) (g1 : B0 ≤ z3) (g2 : z3 ≤ z4) (g3 : z4 ≤ z5) (g4 : z5 ≤ z6) (g5 : z6 ≤ top) (g6 : top ≤ ba) (g7 : ba < t2) (g8 : t2 ≤ w.heap.size) (hn1 : fl.length ≤ 2000000000000) (hn2 : pl.length ≤ 2000000000000) :
  ∃ V L LO HI, Fs W w B0 top t2 ba a cap cs V LO HI ww wp fl pl ∧ Rw w V L LO HI (XI L 0 0) ∧ ∀ j, j < 4 → (L j).length ≤ 2000000000000 := by
 refine ⟨four va vb vp vq, four fl fl pl pl, four B0 z3 z4 z5, four z3 z4 z5 z6, ⟨hB, htw, hal, hw, hp, g0, by omega, ⟨g6, g7, g8⟩, ?_, ?_⟩, ?_, ?_⟩
 ·refine all4 ?_ ?_ ?_ ?_ <;> (simp only [four]; omega)
 ·intro i j hij hj
  have : (i = 0 ∧ j = 1) ∨ (i = 0 ∧ j = 2) ∨ (i = 0 ∧ j = 3) ∨ (i = 1 ∧ j = 2) ∨ (i = 1 ∧ j = 3) ∨ (i = 2 ∧ j = 3) := by omega
  rcases this with ⟨rfl, rfl⟩ | ⟨rfl, rfl⟩ | ⟨rfl, rfl⟩ | ⟨rfl, rfl⟩ | ⟨rfl, rfl⟩ | ⟨rfl, rfl⟩ <;> (simp only [four]; omega)
 ·rw [XI_zero]
  exact all4 h1 h2 h3 h4
 ·exact all4 hn1 hn1 hn2 hn2
theorem own_at {w : World} {S : Nat → Prop} {n g o c : Nat} {v : Value} {l : List Int} (h : Md.Own w S 3 1 v n (ints l)) (hv : v = .slice (some ⟨g, o, none⟩) n c) {k : Nat} (hk : k < n) : ∃ x, l[k]? = some x ∧ w.cell? ⟨g, o + k, none⟩ = some (.int .i64 x) ∧ w.frozen? ⟨g, o + k, none⟩ = false ∧ g < w.heap.size := by
 obtain ⟨g', o', c', cur, e, hc, _, hS, hg, hs, hx⟩ := h.there (by omega)
 rw [hv] at e
 cases e
 have hl : l.length = n := by have := h.1; simpa [ints] using this
 obtain ⟨x, hx1⟩ : ∃ x, l[k]? = some x := ⟨_, List.getElem?_eq_getElem (by omega)⟩
 exact ⟨x, hx1, own_cells hg hx k _ (by simp [ints, hx1]), by simp [World.frozen?, hg], (Array.getElem?_eq_some_iff.1 hg).1⟩
def mx (os cs : List Cq) (i : Nat) : List Cq := os.take i ++ cs.drop i
theorem mx_len {os cs : List Cq} {i : Nat} (h1 : i ≤ os.length) (h2 : i ≤ cs.length) : (mx os cs i).length = cs.length := by
 unfold mx
 simp
 omega
theorem mx_put {os cs : List Cq} {i : Nat} {c : Cq} (hc : os[i]? = some c) (h2 : i < cs.length) : (mx os cs i ++ [mk77]).set i c = mx os cs (i + 1) ++ [mk77] := by
 have h1 := (List.getElem?_eq_some_iff.1 hc).1
 rw [List.set_append_left _ _ (by rw [mx_len (by omega) (by omega)]; exact h2)]
 congr 1
 unfold mx
 rw [List.take_add_one, hc]
 rw [List.set_append_right _ _ (by simp; omega)]
 have e : i - (os.take i).length = 0 := by simp; omega
 rw [e, List.append_assoc]
 congr 1
 rw [List.drop_eq_getElem_cons h2]
 rfl
theorem mx_wf {os cs : List Cq} (h1 : ∀ c ∈ os, WfC c) (h2 : ∀ c ∈ cs, WfC c) (i : Nat) : ∀ c ∈ mx os cs i, WfC c := by
 intro c hc
 rcases List.mem_append.1 hc with h | h
 ·exact h1 c (List.mem_of_mem_take h)
 ·exact h2 c (List.mem_of_mem_drop h)
structure Ft (W w : World) (B0 : Nat) (a : Option Addr) (cap : Nat) (n : Nat) (ds : List Cq) : Prop where
 bel : Below W.heap.size W w
 tw : Md.Own w (fun k => W.heap.size ≤ k ∧ k < B0) 45 9 (.slice a (n + 1) cap) (n + 1) (cqs (ds ++ [mk77]))
theorem Ft.below {W w w' : World} {B0 cap n : Nat} {a : Option Addr} {ds : List Cq} (h : Ft W w B0 a cap n ds) (hB : Below w.heap.size w w') : Ft W w' B0 a cap n ds := ⟨h.bel.trans (hB.mono h.bel.size), h.tw.below hB⟩
theorem own_put9 {w : World} {S : Nat → Prop} {g o n cap : Nat} {l : List Cq} (h : Md.Own w S 45 9 (.slice (some ⟨g, o, none⟩) n cap) n (cqs l)) (hl : l.length = n) {i : Nat} (hi : i < n) (c : Cq) : Md.Own (put9 w g (o + i * 9) c) S 45 9 (.slice (some ⟨g, o, none⟩) n cap) n (cqs (l.set i c)) := by
 have h9 := ((((((((((((((((((h).put (by omega) (j := i * 9) (by omega) (.int .i64 c.th))).put (by omega) (j := i * 9 + 1) (by omega) (.int .i64 c.op))).put (by omega) (j := i * 9 + 2) (by omega) (.int .i64 c.arg))).put (by omega) (j := i * 9 + 3) (by omega) (.int .i64 c.data))).put (by omega) (j := i * 9 + 4) (by omega) (.int .i64 c.beg))).put (by omega) (j := i * 9 + 5) (by omega) (.int .i64 c.fin))).put (by omega) (j := i * 9 + 6) (by omega) (.int .i64 c.pt))).put (by omega) (j := i * 9 + 7) (by omega) (.int .i64 c.ak))).put (by omega) (j := i * 9 + 8) (by omega) (.int .i64 c.av))
 rw [cqs_set l i c (by omega)] at h9
 have e : ∀ t, o + (i * 9 + t) = o + i * 9 + t := fun t => (Nat.add_assoc _ _ _).symm
 simp only [e] at h9
 exact h9
theorem Ft.put {W w : World} {B0 cap n g o i : Nat} {ds ds2 : List Cq} {c : Cq} (h : Ft W w B0 (some ⟨g, o, none⟩) cap n ds) (hl : ds.length = n) (hi : i < n) (hd : (ds ++ [mk77]).set i c = ds2 ++ [mk77]) : Ft W (put9 w g (o + i * 9) c) B0 (some ⟨g, o, none⟩) cap n ds2 := by
 have hg : W.heap.size ≤ g := by
  obtain ⟨g', o', c', cur, e, _, _, hS, _⟩ := h.tw.there (by omega)
  cases e
  exact hS.1
 refine ⟨?_, ?_⟩
 ·unfold put9
  exact (((((((((h.bel).setCell (p := ⟨g, o + i * 9, none⟩) hg (.int .i64 c.th)).setCell (p := ⟨g, o + i * 9 + 1, none⟩) hg (.int .i64 c.op)).setCell (p := ⟨g, o + i * 9 + 2, none⟩) hg (.int .i64 c.arg)).setCell (p := ⟨g, o + i * 9 + 3, none⟩) hg (.int .i64 c.data)).setCell (p := ⟨g, o + i * 9 + 4, none⟩) hg (.int .i64 c.beg)).setCell (p := ⟨g, o + i * 9 + 5, none⟩) hg (.int .i64 c.fin)).setCell (p := ⟨g, o + i * 9 + 6, none⟩) hg (.int .i64 c.pt)).setCell (p := ⟨g, o + i * 9 + 7, none⟩) hg (.int .i64 c.ak)).setCell (p := ⟨g, o + i * 9 + 8, none⟩) hg (.int .i64 c.av)
 ·have := own_put9 h.tw (by simp [hl]) (i := i) (by omega) c
  rw [hd] at this
  exact this
theorem Ft.at {W w : World} {B0 cap n g o i : Nat} {ds : List Cq} (h : Ft W w B0 (some ⟨g, o, none⟩) cap n ds) (hl : ds.length = n) (hi : i < n) : ∃ d, At9 w g (o + i * 9) d ∧ ∀ t, t < 9 → w.frozen? ⟨g, o + i * 9 + t, none⟩ = false := by
 obtain ⟨d, hd⟩ := get_of_lt (cs := ds ++ [mk77]) (i := i) (by simp [hl]; omega)
 have h2 := h.tw.sl
 rw [show n + 1 = (ds ++ [mk77]).length from by simp [hl]] at h2
 obtain ⟨b, o', e, hA⟩ := call_at h2 hd
 cases e
 obtain ⟨g', o', c', cur, e, _, _, _, hg, _⟩ := h.tw.there (by omega)
 cases e
 exact ⟨d, hA, fun t _ => by simp [World.frozen?, hg]⟩
end Go.Proofs.YtnbibkohgppjnaaGreat.Ws
namespace Go.Proofs.YtnbibkohgppjnaaGreat.Ws
open Go.RowKit Mr Md Wt
set_option maxHeartbeats 32000000 in
theorem law_fresh (v u : Value) (cs os : List Cq) (W : World) (hv : Sl W (fun _ => True) 9 v cs.length (cqs cs)) (hu : Sl W (fun _ => True) 9 u os.length (cqs os)) (hsm : cs.length * 72 ≤ 140737488351232) (hso : os.length * 72 ≤ 140737488351232) (hwf : ∀ c ∈ cs, WfC c) (hwo : ∀ c ∈ os, WfC c) :
  Calls Tryz.prog 4 #[v, u] W fun e w' => e = .returned (.bool true) ∧ Below W.heap.size W w' := by
 obtain ⟨i0, hi0, hz0, hz1, hz2⟩ := parts_of wt_int
 have hfl := fL_len cs
 have hpl := pL_len cs
 have AW := Mr.hid (awake_any W)
 have TW := Mr.hid (fun w' (hB : Below W.heap.size W w') => twin_any (hv.below hB) hsm)
 have FN := fun w' (T : Nat → Prop) a cap (h : Sl w' T 9 (.slice a (cs.length + 1) cap) (cs.length + 1) (cqs (cs ++ [mk77]))) => Find_one (sl_cut h) (by omega) hwf
 have PT := fun w' (T : Nat → Prop) a cap (h : Sl w' T 9 (.slice a (cs.length + 1) cap) (cs.length + 1) (cqs (cs ++ [mk77]))) => points_one (sl_cut h) (by omega)
 have SI := fun w' T1 T2 u1 u2 (l : List Int) (hl : l.length ≤ 1000000000000000) (h1 : Sl w' T1 1 u1 l.length (ints l)) (h2 : Sl w' T2 1 u2 l.length (ints l)) => sameInts_eq h1 h2 hl
 have US := fun w' (T : Nat → Prop) (hB : Below W.heap.size W w') a cap (h : Sl w' T 9 (.slice a (cs.length + 1) cap) (cs.length + 1) (cqs (cs ++ [mk77]))) => unspoilt_any h (hv.below hB) hsm
 obtain ⟨av, cv, rfl, hcv⟩ := hv.form
 obtain ⟨au, cu, rfl, hcu⟩ := hu.form
 obtain ⟨n, hn⟩ : ∃ n, n = cs.length := ⟨_, rfl⟩
 obtain ⟨m, hm⟩ : ∃ m, m = os.length := ⟨_, rfl⟩
 have hfl2 : (fL cs).length ≤ 1000000000000 := by omega
 have hpl2 : (pL cs).length ≤ 2000000000000 := by omega
 unfold FdC at FN
 generalize fE cs = fe at *
 generalize hflE : fL cs = fl at *
 generalize pE cs = pe at *
 generalize hplE : pL cs = pl at *
 clear hflE hplE hfl
 rw [← hn] at hsm hcv hpl FN PT US TW ⊢
 rw [← hm] at hso hcu ⊢
 have q1 : (fe != fe) = false := by simp
 have q2 : (pe != pe) = false := by simp
 replace hn := Mr.hid hn
 replace hm := Mr.hid hm
 replace hv := Mr.hid hv
 replace hu := Mr.hid hu
 replace FN := Mr.hid FN
 replace PT := Mr.hid PT
 replace SI := Mr.hid SI
 replace US := Mr.hid US
 go_enter Tryz.func4, Tryz.ntmps4
 go_upto_region 3 with (go_at_call 13; refine AW.out.mono ?_; clear AW; rintro e w1 ⟨rfl, hB1⟩; replace hB1 := Mr.hid hB1)
 go_upto_region 4 with (go_at_call 5; refine (TW.out _ hB1.out).mono ?_; clear TW; rintro e w2 ⟨a, cap, rfl, hown, hB2⟩; have hTw : Hid (Md.Own w2 (fun k => W.heap.size ≤ k ∧ k < w2.heap.size) 45 9 (.slice a (n + 1) cap) (n + 1) (cqs (cs ++ [mk77]))) := (own_inb hown).mono (fun k hk => ⟨Nat.le_trans hB1.out.size hk.1, hk.2⟩); have hB : Hid (Below W.heap.size W w2) := hB1.out.trans (hB2.mono hB1.out.size); have hW2 : Hid (W.heap.size ≤ w2.heap.size) := hB.out.size; clear hown hB1 hB2)
 go_upto_region 5 with (go_at_call 6; refine (FN.out _ _ _ _ hTw.out.sl).mono ?_; rintro e w3 ⟨va, rfl, hh, hB3⟩; have hVa := Mr.hid (own_inb (Own.of_has hh)); obtain ⟨ax, cx, rfl, hcx⟩ := hh.form; have hTw3 := Mr.hid (hTw.out.below hB3); replace hB := Mr.hid (hB.out.trans (hB3.mono hB.out.size)); have hz3 := Mr.hid hB3.size; clear hh hB3)
 go_upto_region 6 with (go_at_call 6; refine (FN.out _ _ _ _ hTw3.out.sl).mono ?_; rintro e w4 ⟨vb, rfl, hh, hB4⟩; have hVb := Mr.hid (own_inb (Own.of_has hh)); obtain ⟨bx, cbx, rfl, hcbx⟩ := hh.form; replace hTw3 := Mr.hid (hTw3.out.below hB4); replace hVa := Mr.hid (hVa.out.below hB4); replace hB := Mr.hid (hB.out.trans (hB4.mono hB.out.size)); have hz4 := Mr.hid hB4.size; clear hh hB4)
 go_upto_region 7 with (go_at_call 14; refine (PT.out _ _ _ _ hTw3.out.sl).mono ?_; rintro e w5 ⟨vq, rfl, hh, hB5⟩; have hVp := Mr.hid (own_inb hh); obtain ⟨px, cpx, rfl, hcpx, _⟩ := hh.form; replace hTw3 := Mr.hid (hTw3.out.below hB5); replace hVa := Mr.hid (hVa.out.below hB5); replace hVb := Mr.hid (hVb.out.below hB5); replace hB := Mr.hid (hB.out.trans (hB5.mono hB.out.size)); have hz5 := Mr.hid hB5.size; clear hh hB5)
 go_upto_region 8 with (go_at_call 14; refine (PT.out _ _ _ _ hTw3.out.sl).mono ?_; rintro e w6 ⟨vq, rfl, hh, hB6⟩; have hVq := Mr.hid (own_inb hh); obtain ⟨qx, cqx, rfl, hcqx, _⟩ := hh.form; replace hTw3 := Mr.hid (hTw3.out.below hB6); replace hVa := Mr.hid (hVa.out.below hB6); replace hVb := Mr.hid (hVb.out.below hB6); replace hVp := Mr.hid (hVp.out.below hB6); replace hB := Mr.hid (hB.out.trans (hB6.mono hB.out.size)); have hz6 := Mr.hid hB6.size; clear hh hB6)
 have SIa := Mr.hid (SI.out _ _ _ _ _ fl (by omega) hVa.out.sl hVb.out.sl)
 have SIb := Mr.hid (fun w' (hB : Below w6.heap.size w6 w') => SI.out _ _ _ _ _ pl (by omega) (hVp.out.sl.below hB) (hVq.out.sl.below hB))
 go_upto_region 10 with (first
  | (go_at_call 8; refine SIa.out.mono ?_; clear SIa; rintro e w7 ⟨rfl, hB7⟩)
  | (go_at_call 8; refine (SIb.out _ hB7).mono ?_; clear SIb; rintro e w8 ⟨rfl, hB8⟩; replace hB8 := hB7.trans (hB8.mono hB7.size); replace hTw3 := Mr.hid (hTw3.out.below hB8); replace hVa := Mr.hid (hVa.out.below hB8); replace hVb := Mr.hid (hVb.out.below hB8); replace hVp := Mr.hid (hVp.out.below hB8); replace hVq := Mr.hid (hVq.out.below hB8); replace hB := Mr.hid (hB.out.trans (hB8.mono hB.out.size)); have hz8 := Mr.hid hB8.size; clear hB8 hB7))
 obtain ⟨ha1, ha2⟩ := sl_src hVa.out.sl
 obtain ⟨hp1, hp2⟩ := sl_src hVp.out.sl
 have hla : (ints fl).length = fl.length * 1 := by simp [ints]
 have hlp : (ints pl).length = pl.length * 1 := by simp [ints]
 have hoa := ints_one9 fl
 have hop := ints_one9 pl
 replace ha1 := Mr.hid ha1
 replace ha2 := Mr.hid ha2
 replace hp1 := Mr.hid hp1
 replace hp2 := Mr.hid hp2
 replace hla := Mr.hid hla
 replace hlp := Mr.hid hlp
 replace hoa := Mr.hid hoa
 replace hop := Mr.hid hop
 go_upto_region 11 with (at_builtin; refine wpList_append_mine _ rfl (.tmp 77) (.tmp 78) 24 rfl (fun k => w8.heap.size ≤ k) 3 i0 _ 1 8 Tryz.underlying24 hi0 hz0 hz1 hz2 rfl _ 0 [] rfl (Own.zero _ _ _ _ _) ax fl.length cx (ints fl) rfl hla.out ha1.out (ha2.out _ ((Below.refl _ _).alloc (Nat.le_refl _) _)) hoa.out (by unfold maxLen; omega) (by omega) ?_; intro bw capw w9 hown hfr; have hB9 : Below w8.heap.size w8 w9 := ((Below.refl _ _).alloc (Nat.le_refl _) _).trans (hfr.below (fun k hk => hk) (by simp)); replace hown := hown.mono (T := fun k => w8.heap.size ≤ k) (fun k hk => by rcases hk with hk | hk; exact hk; subst hk; simp); rw [Nat.zero_add, List.nil_append] at hown; rw [Nat.zero_add]; clear hfr; have hWt := Mr.hid hown.sl; clear hown; replace hB9 := Mr.hid hB9)
 go_upto_region 12 with (at_builtin; refine wpList_append_mine _ rfl (.tmp 80) (.tmp 81) 24 rfl (fun k => w9.heap.size ≤ k) 3 i0 _ 1 8 Tryz.underlying24 hi0 hz0 hz1 hz2 rfl _ 0 [] rfl (Own.zero _ _ _ _ _) px pl.length cpx (ints pl) rfl hlp.out hp1.out (hp2.out _ (hB9.out.alloc hB9.out.size _)) hop.out (by unfold maxLen; omega) (by omega) ?_; intro bp capp w10 hown hfr; have hB10 : Below w9.heap.size w9 w10 := ((Below.refl _ _).alloc (Nat.le_refl _) _).trans (hfr.below (fun k hk => hk) (by simp)); replace hown := hown.mono (T := fun k => w9.heap.size ≤ k) (fun k hk => by rcases hk with hk | hk; exact hk; subst hk; simp); rw [Nat.zero_add, List.nil_append] at hown; rw [Nat.zero_add]; clear hfr; have hPw := Mr.hid hown.sl; clear hown; replace hWt := Mr.hid (hWt.out.below hB10); replace hB10 := Mr.hid hB10)
 have hB8 : Below w8.heap.size w8 w10 := hB9.out.trans (hB10.out.mono hB9.out.size)
 have FSx : Hid (∀ w11, w11 = w10.alloc (.cells #[.slice ax fl.length cx, .slice bx fl.length cbx, .slice px pl.length cpx, .slice qx pl.length cqx] 24 (0, 0)) → ∃ V L LO HI, Fs W w11 w2.heap.size w8.heap.size w11.heap.size w10.heap.size a cap cs V LO HI (.slice bw fl.length capw) (.slice bp pl.length capp) fl pl ∧ Rw w11 V L LO HI (XI L 0 0) ∧ ∀ j, j < 4 → (L j).length ≤ 2000000000000) := by
  rintro w11 rfl
  have hA : ∀ o, Below w10.heap.size w10 (w10.alloc o) := fun o => (Below.refl _ _).alloc (Nat.le_refl _) o
  have hB11 := fun o => hB8.trans ((hA o).mono hB8.size)
  have s8 := hB8.size
  have s9 := hB9.out.size
  have s2 := hB.out.size
  have z3 := hz3.out
  have z4 := hz4.out
  have z5 := hz5.out
  have z6 := hz6.out
  have z8 := hz8.out
  have htw := hTw3.out.below (hB11 (.cells #[.slice ax fl.length cx, .slice bx fl.length cbx, .slice px pl.length cpx, .slice qx pl.length cqx] 24 (0, 0)))
  rw [hn.out] at htw
  refine rows_first (z3 := w3.heap.size) (z4 := w4.heap.size) (z5 := w5.heap.size) (z6 := w6.heap.size) (hB.out.trans ((hB11 _).mono hB.out.size)) htw (hVa.out.below (hB11 _)) (hVb.out.below (hB11 _)) (hVp.out.below (hB11 _)) (hVq.out.below (hB11 _)) ?_ ?_ (new_at _ _ _ rfl) hW2.out (by omega) (by omega) (by omega) (by omega) (by omega) (by omega) (by simp) (by simp) (by omega) (by omega)
  ·exact sl_both (hWt.out.below (hA _)) (sl_low (hWt.out.below (hA _)))
  ·exact sl_both ((hPw.out.below (hA _)).mono (fun k hk => Nat.le_trans s9 hk)) (sl_low (hPw.out.below (hA _)))
 go_upto_region 13 with (fail)
 obtain ⟨V, L, LO, HI, hFs, hRw, hLb⟩ := FSx.out _ rfl
 clear FSx hB8 hB10 hB9 hWt hPw hVa hVb hVp hVq hTw3 hTw hB hW2 hz3 hz4 hz5 hz6 hz8 ha1 ha2 hp1 hp2 hla hlp hoa hop
 generalize (World.alloc w10 _) = w11 at *
 generalize w11.heap.size = t2 at *
 generalize w10.heap.size = ba at *
 generalize w8.heap.size = top at *
 generalize w2.heap.size = B0 at *
 replace hFs := Mr.hid hFs
 replace hRw := Mr.hid hRw
 replace hLb := Mr.hid hLb
 go_wp2
 go_loopg [17] 4 (fun q s17 wr => ∃ i : Nat, s17 = .int .i64 (i : Int) ∧ i + q = 4 ∧ Fs W wr B0 top t2 ba a cap cs V LO HI (.slice bw fl.length capw) (.slice bp pl.length capp) fl pl ∧ Rw wr V L LO HI (XI L i 0))
 case atStart => exact ⟨0, rfl, by omega, hFs.out, hRw.out⟩
 case round =>
  clear hFs hRw
  obtain ⟨i, rfl, hi, hFs, hRw⟩ := hrel
  by_cases hlt : i < 4
  ·have hlI : (i : Int) < 4 := by omega
   have hw1 : IntKind.i64.wrap ((i : Int) + 1) = (i : Int) + 1 := i64x _ (by omega) (by omega)
   have hw2 : IntKind.i64.wrap (1000 + (i : Int)) = 1000 + (i : Int) := i64x _ (by omega) (by omega)
   have qi : (0 : Int) ≤ (i : Int) := by omega
   have hLi := hLb.out i hlt
   obtain ⟨ln, hln⟩ : ∃ ln, ln = (L i).length := ⟨_, rfl⟩
   rw [← hln] at hLi
   replace hln := Mr.hid hln
   replace hFs := Mr.hid hFs
   replace hRw := Mr.hid hRw
   obtain ⟨gko, hgko⟩ : ∃ g, g = gk := ⟨_, rfl⟩
   replace hgko := Mr.hid hgko
   go_wp2
   go_loopg [18] ln (fun q s18 wr => ∃ k : Nat, s18 = .int .i64 (k : Int) ∧ k + q = ln ∧ Fs W wr B0 top t2 ba a cap cs V LO HI (.slice bw fl.length capw) (.slice bp pl.length capp) fl pl ∧ Rw wr V L LO HI (XI L i k))
   case atStart => exact ⟨0, rfl, by omega, hFs.out, hRw.out⟩
   case round =>
    clear hFs hRw
    obtain ⟨k, rfl, hk, hFs, hRw⟩ := hrel
    obtain ⟨kA, kl⟩ := hFs.at hlt
    have hOi := hRw i hlt
    by_cases hkl : k < ln
    ·obtain ⟨g, o, c, cur, hVi, hnc, hcm, _, _, _, _⟩ := hOi.there (by have := hln.out; omega)
     obtain ⟨x, hx, kc, kf, kg⟩ := own_at hOi hVi (k := k) (by have := hln.out; omega)
     have hPut := Rw.put hFs hRw hlt (k := k) (by have := hln.out; omega) hVi (1000 + (i : Int))
     rw [XI_put L (by have := hln.out; omega)] at hPut
     rw [hVi, ← hln.out] at kA
     have f1 : (k : Int) < (ln : Int) := by omega
     have f0 : (0 : Int) ≤ (k : Int) := by omega
     have hw3 : IntKind.i64.wrap ((k : Int) + 1) = (k : Int) + 1 := i64x _ (by omega) (by omega)
     replace hPut := Mr.hid hPut
     replace hVi := Mr.hid hVi
     replace hx := Mr.hid hx
     clear hFs hRw hOi
     go_wp2
     go_roundg (gk - 1)
     case measure => omega
     case rel => exact ⟨k + 1, by simp, by omega, hPut.out.1, hPut.out.2⟩
    ·obtain ⟨av9, c, hVi, hnc, hcm⟩ := hOi.form
     rw [hVi, ← hln.out] at kA
     have dl : decide ((k : Int) < (ln : Int)) = false := decide_eq_false (by omega)
     have hke : k = (L i).length := by have := hln.out; omega
     have hRn : Rw wr V L LO HI (XI L (i + 1) 0) := by rw [← XI_next, ← hke]; exact hRw
     replace hRn := Mr.hid hRn
     replace hFs := Mr.hid hFs
     replace hke := Mr.hid hke
     replace hVi := Mr.hid hVi
     clear hRw hOi
     go_wp2
     go_roundg (gko - 1)
     case measure => have := hgko.out; omega
     case rel => exact ⟨i + 1, by simp, by have := hgko.out; omega, hFs.out, hRn.out⟩
  ·obtain rfl : i = 4 := by omega
   have hRa := Rw.ra hRw
   have hVl := Mr.hid (Rw.vl hRw)
   replace hFs := Mr.hid hFs
   replace hRa := Mr.hid hRa
   clear hRw
   go_wp2
   go_loopg [19] 4 (fun q s19 wr => ∃ i : Nat, s19 = .int .i64 (i : Int) ∧ i + q = 4 ∧ Fs W wr B0 top t2 ba a cap cs V LO HI (.slice bw fl.length capw) (.slice bp pl.length capp) fl pl ∧ Ra wr V L LO HI i)
   case atStart => exact ⟨0, rfl, by omega, hFs.out, hRa.out⟩
   case round =>
    clear hFs hRa
    obtain ⟨i, rfl, hi, hFs, hRa⟩ := hrel
    by_cases hlt : i < 4
    ·have hlI : (i : Int) < 4 := by omega
     have hw1 : IntKind.i64.wrap ((i : Int) + 1) = (i : Int) + 1 := i64x _ (by omega) (by omega)
     have hw2 : IntKind.i64.wrap (5000 + (i : Int)) = 5000 + (i : Int) := i64x _ (by omega) (by omega)
     have qi : (0 : Int) ≤ (i : Int) := by omega
     have hLi := hLb.out i hlt
     obtain ⟨ln, hln⟩ : ∃ ln, ln = (L i).length := ⟨_, rfl⟩
     rw [← hln] at hLi
     replace hln := Mr.hid hln
     obtain ⟨kA, kl⟩ := hFs.at hlt
     have hRb := Mr.hid (hRa.first hlt t2)
     replace hFs := Mr.hid hFs
     obtain ⟨gko, hgko⟩ : ∃ g, g = gk := ⟨_, rfl⟩
     replace hgko := Mr.hid hgko
     clear hRa
     go_wp2
     go_loopg [20, 21] 20 (fun q s20 s21 wr => ∃ (k : Nat) (x : Value), x = s20 ∧ s21 = .int .i64 (k : Int) ∧ k + q = 20 ∧ Fs W wr B0 top t2 ba a cap cs V LO HI (.slice bw fl.length capw) (.slice bp pl.length capp) fl pl ∧ Rb wr V L LO HI t2 i x k)
     case atStart => exact ⟨0, _, rfl, rfl, by omega, hFs.out, hRb.out⟩
     case round =>
      clear hFs hRb kA kl
      obtain ⟨k, x, rfl, rfl, hk, hFs, hRb⟩ := hrel
      by_cases hkl : k < 20
      ·obtain ⟨xs, hOx⟩ := hRb.gr.own
       rw [← hln.out] at hOx
       obtain ⟨x9, c9, rfl, hc9, hm9⟩ := hOx.form
       have f1 : (k : Int) < 20 := by omega
       have hw3 : IntKind.i64.wrap ((k : Int) + 1) = (k : Int) + 1 := i64x _ (by omega) (by omega)
       replace hOx := Mr.hid hOx
       replace hFs := Mr.hid hFs
       replace hRb := Mr.hid hRb
       go_wp2_with (at_builtin; refine wpList_append_keep _ rfl (.tmp 121) (.tmp 124) 24 rfl (fun q => lab LO HI i q ∨ t2 ≤ q) 3 i0 _ 1 8 Tryz.underlying24 hi0 hz0 hz1 hz2 rfl _ (ln + k) xs rfl (hOx.out.below ((Below.refl _ _).alloc (Nat.le_refl _) _)) ⟨wr.heap.size, 0, none⟩ 1 1 (by omega) [.int .i64 (5000 + (i : Int))] rfl rfl (new1 rfl _ rfl) (by simp [Value.oneCell']) (by unfold maxLen; omega) (by omega) ?_; intro b8 c8 w9 hown hfr hkp; rw [hln.out] at hown hkp; have hN := Mr.hid (Rb.app (hFs.out.below ((Below.refl _ _).alloc (Nat.le_refl _) _)) (by have := hRb.out.below ((Below.refl wr.heap.size wr).alloc (Nat.le_refl _) (.cells #[.int .i64 (5000 + (i : Int))] 3 (0, 0))); rw [hln.out] at this; exact this) hlt hown hfr hkp); clear hown hfr hkp)
       go_roundg (gk - 1)
       case measure => omega
       case rel => exact ⟨k + 1, _, rfl, by simp, by omega, hN.out.1, by have := hN.out.2; rw [← hln.out] at this; exact this⟩
      ·have dl : decide ((k : Int) < 20) = false := decide_eq_false (by omega)
       have hRn := Mr.hid (hRb.last hlt hVl.out)
       replace hFs := Mr.hid hFs
       clear hRb
       go_wp2
       go_roundg (gko - 1)
       case measure => have := hgko.out; omega
       case rel => exact ⟨i + 1, by simp, by have := hgko.out; omega, hFs.out, hRn.out⟩
    ·obtain rfl : i = 4 := by omega
     replace hFs := Mr.hid hFs
     replace hRa := Mr.hid hRa
     go_wp2
     go_loopg [22] 4 (fun q s22 wr => ∃ i : Nat, s22 = .int .i64 (i : Int) ∧ i + q = 4 ∧ Fs W wr B0 top t2 ba a cap cs V LO HI (.slice bw fl.length capw) (.slice bp pl.length capp) fl pl ∧ Ra wr V L LO HI 4)
     case atStart => exact ⟨0, rfl, by omega, hFs.out, hRa.out⟩
     case round =>
      clear hFs hRa
      obtain ⟨i, rfl, hi, hFs, hRa⟩ := hrel
      by_cases hlt : i < 4
      ·have hlI : (i : Int) < 4 := by omega
       have hw1 : IntKind.i64.wrap ((i : Int) + 1) = (i : Int) + 1 := i64x _ (by omega) (by omega)
       have hw2 : IntKind.i64.wrap (1000 + (i : Int)) = 1000 + (i : Int) := i64x _ (by omega) (by omega)
       have qi : (0 : Int) ≤ (i : Int) := by omega
       have hLi := hLb.out i hlt
       obtain ⟨ln, hln⟩ : ∃ ln, ln = (L i).length := ⟨_, rfl⟩
       rw [← hln] at hLi
       replace hln := Mr.hid hln
       obtain ⟨gko, hgko⟩ : ∃ g, g = gk := ⟨_, rfl⟩
       replace hgko := Mr.hid hgko
       replace hFs := Mr.hid hFs
       replace hRa := Mr.hid hRa
       go_wp2
       go_loopg [23] ln (fun q s23 wr => ∃ k : Nat, s23 = .int .i64 (k : Int) ∧ k + q = ln ∧ Fs W wr B0 top t2 ba a cap cs V LO HI (.slice bw fl.length capw) (.slice bp pl.length capp) fl pl ∧ Ra wr V L LO HI 4)
       case atStart => exact ⟨0, rfl, by omega, hFs.out, hRa.out⟩
       case round =>
        clear hFs hRa
        obtain ⟨k, rfl, hk, hFs, hRa⟩ := hrel
        obtain ⟨kA, kl⟩ := hFs.at hlt
        have hSi := hRa.sl i hlt
        by_cases hkl : k < ln
        ·obtain ⟨g, o, c, hVi, hnc, _, hgl, hr⟩ := hSi.there (by have := hln.out; omega)
         have kc := hr k (.int .i64 (1000 + (i : Int))) (by rw [ints, rp, List.getElem?_map, List.getElem?_replicate, if_pos (by have := hln.out; omega)]; rfl)
         rw [hVi, ← hln.out] at kA
         have f1 : (k : Int) < (ln : Int) := by omega
         have f0 : (0 : Int) ≤ (k : Int) := by omega
         have hw3 : IntKind.i64.wrap ((k : Int) + 1) = (k : Int) + 1 := i64x _ (by omega) (by omega)
         replace hVi := Mr.hid hVi
         replace hFs := Mr.hid hFs
         replace hRa := Mr.hid hRa
         clear hr hSi
         go_wp2
         go_roundg (gk - 1)
         case measure => omega
         case rel => exact ⟨k + 1, by simp, by omega, hFs.out, hRa.out⟩
        ·obtain ⟨av9, c, hVi, hnc⟩ := hSi.form
         rw [hVi, ← hln.out] at kA
         have dl : decide ((k : Int) < (ln : Int)) = false := decide_eq_false (by omega)
         replace hVi := Mr.hid hVi
         replace hFs := Mr.hid hFs
         replace hRa := Mr.hid hRa
         clear hSi
         go_wp2
         go_roundg (gko - 1)
         case measure => have := hgko.out; omega
         case rel => exact ⟨i + 1, by simp, by have := hgko.out; omega, hFs.out, hRa.out⟩
      ·obtain rfl : i = 4 := by omega
       replace hFs := Mr.hid hFs
       clear hRa hVl hLb
       go_upto_region 36 with (fail)
       have hT0 := hFs.out.tw.sl
       rw [← hn.out] at hT0
       replace hT0 := Mr.hid hT0
       go_upto_region 37 with (go_at_call 6; refine (FN.out _ _ _ _ hT0.out).mono ?_; clear FN; rintro e w12 ⟨vd, rfl, hh, hB12⟩; have hSc := Mr.hid (Sl.of_has hh); obtain ⟨cx1, ccx, rfl, hccx⟩ := hh.form; replace hFs := Mr.hid (hFs.out.below hB12); replace hT0 := Mr.hid (hT0.out.below hB12); clear hh hB12)
       go_upto_region 38 with (go_at_call 14; refine (PT.out _ _ _ _ hT0.out).mono ?_; clear PT; rintro e w13 ⟨vd, rfl, hh, hB13⟩; have hSr := Mr.hid hh.sl; obtain ⟨rx1, crx, rfl, hcrx, _⟩ := hh.form; replace hSc := Mr.hid (hSc.out.below hB13); replace hFs := Mr.hid (hFs.out.below hB13); replace hT0 := Mr.hid (hT0.out.below hB13); clear hh hB13)
       have SIc := Mr.hid (SI.out _ _ _ _ _ fl (by omega) hSc.out hFs.out.want)
       have SIr := Mr.hid (fun w' (hB : Below w13.heap.size w13 w') => SI.out _ _ _ _ _ pl (by omega) (hSr.out.below hB) (hFs.out.pts.below hB))
       have USw := Mr.hid (fun w' (hB : Below w13.heap.size w13 w') => US.out w' _ (hFs.out.bel.trans (hB.mono hFs.out.bel.size)) _ _ (hT0.out.below hB))
       clear US
       go_upto_region 40 with (first
        | (go_at_call 8; refine SIc.out.mono ?_; clear SIc; rintro e w14 ⟨rfl, hB14⟩)
        | (go_at_call 8; refine (SIr.out _ hB14).mono ?_; clear SIr; rintro e w15 ⟨rfl, hB15⟩; replace hB15 := hB14.trans (hB15.mono hB14.size); clear hB14)
        | (go_at_call 10; refine (USw.out _ hB15).mono ?_; clear USw; rintro e w16 ⟨rfl, hB16⟩; replace hB16 := hB15.trans (hB16.mono hB15.size); replace hFs := Mr.hid (hFs.out.below hB16); clear hB15 hB16))
       have hFt : Hid (Ft W w16 B0 a cap n (mx os cs 0)) := ⟨hFs.out.bel, by have := hFs.out.tw; rw [← hn.out] at this; simpa [mx] using this⟩
       clear hFs hT0 hSc hSr
       go_wp2
       go_loopg [28] n (fun q s28 wr => ∃ i : Nat, s28 = .int .i64 (i : Int) ∧ i + q = n ∧ i ≤ m ∧ Ft W wr B0 a cap n (mx os cs i))
       case atStart => exact ⟨0, rfl, by omega, by omega, hFt.out⟩
       case round =>
        clear hFt
        obtain ⟨i, rfl, hi, him, hFt⟩ := hrel
        by_cases hlt : i < n
        ·have hlI : (i : Int) < (n : Int) := by omega
         by_cases hltm : i < m
         ·have hlJ : (i : Int) < (m : Int) := by omega
          have hw1 : IntKind.i64.wrap ((i : Int) + 1) = (i : Int) + 1 := i64x _ (by omega) (by omega)
          have qi : (0 : Int) ≤ (i : Int) := by omega
          have hdl := mx_len (os := os) (cs := cs) (i := i) (by have := hm.out; omega) (by have := hn.out; omega)
          obtain ⟨c, hci⟩ := get_of_lt (cs := os) (i := i) (by have := hm.out; omega)
          obtain ⟨bc, oc, e9, A9⟩ := call_at (hu.out.below hFt.bel) hci
          cases e9
          obtain ⟨hbl, g0, g1, g2, g3, g4, g5, g6, g7, g8⟩ := A9
          obtain ⟨g, o, c9, cur, e8, hc9, _, _, _, _⟩ := hFt.tw.there (by omega)
          injection e8 with e81 e82 e83
          subst e81
          obtain ⟨d, D9, hfz⟩ := hFt.at (by rw [hdl, hn.out]) hlt
          obtain ⟨hgl, k0, k1, k2, k3, k4, k5, k6, k7, k8⟩ := D9
          have z0 := hfz 0 (by omega)
          rw [Nat.add_zero] at z0
          have z1 := hfz 1 (by omega)
          have z2 := hfz 2 (by omega)
          have z3 := hfz 3 (by omega)
          have z4 := hfz 4 (by omega)
          have z5 := hfz 5 (by omega)
          have z6 := hfz 6 (by omega)
          have z7 := hfz 7 (by omega)
          have z8 := hfz 8 (by omega)
          have hPut := hFt.put (by rw [hdl, hn.out]) hlt (mx_put hci (by have := hn.out; omega))
          unfold put9 at hPut
          replace hPut := Mr.hid hPut
          replace hci := Mr.hid hci
          replace hdl := Mr.hid hdl
          clear hFt hfz e82 e83
          go_wp2
          go_roundg (gk - 1)
          case measure => omega
          case rel => exact ⟨i + 1, by simp, by omega, by omega, hPut.out⟩
         ·have hlJ : decide ((i : Int) < (m : Int)) = false := decide_eq_false (by omega)
          have hdl := Mr.hid (mx_len (os := os) (cs := cs) (i := i) (by have := hm.out; omega) (by have := hn.out; omega))
          have hwx := mx_wf hwo hwf i
          have FD : Hid (∀ w' (T : Nat → Prop) a' cap' (h : Sl w' T 9 (.slice a' (n + 1) cap') (n + 1) (cqs (mx os cs i ++ [mk77]))), Calls Tryz.prog 6 #[.slice a' n cap'] w' (FdC w' (mx os cs i))) := fun w' T a' cap' h => by
           have e : n = (mx os cs i).length := by rw [hdl.out, hn.out]
           rw [e] at h ⊢
           exact Find_one (sl_cut h) (by rw [← e]; omega) hwx
          have TD : Hid (∀ w' (T : Nat → Prop) a' cap' (h : Sl w' T 9 (.slice a' (n + 1) cap') (n + 1) (cqs (mx os cs i ++ [mk77]))), Calls Tryz.prog 5 #[.slice a' n cap'] w' fun e w'' => ∃ a2 cap2, e = .returned (.slice a2 n cap2) ∧ Md.Own w'' (fun k => w'.heap.size ≤ k) 45 9 (.slice a2 (n + 1) cap2) (n + 1) (cqs (mx os cs i ++ [mk77])) ∧ Below w'.heap.size w' w'') := fun w' T a' cap' h => by
           have e : n = (mx os cs i).length := by rw [hdl.out, hn.out]
           have e2 : n * 72 ≤ 140737488351232 := hsm
           rw [e] at h e2 ⊢
           exact twin_any (sl_cut h) e2
          have hfx := fL_len (mx os cs i)
          unfold FdC at FD
          generalize fE (mx os cs i) = fx at *
          generalize fL (mx os cs i) = lx at *
          have q3 : (fx == fx) = true := by simp
          replace hFt := Mr.hid hFt
          go_upto_region 45 with (go_at_call 6; refine (FD.out _ _ _ _ hFt.out.tw.sl).mono ?_; rintro e w20 ⟨vd, rfl, hh, hB20⟩; have hSd := Mr.hid (Sl.of_has hh); obtain ⟨dx, cdx, rfl, hcdx⟩ := hh.form; replace hFt := Mr.hid (hFt.out.below hB20); clear hh hB20)
          go_upto_region 46 with (first
           | (go_at_call 5; refine (TD.out _ _ _ _ hFt.out.tw.sl).mono ?_; clear TD; rintro e w21 ⟨a2, cap2, rfl, hown, hB21⟩; have hS2 := Mr.hid hown.sl; replace hSd := Mr.hid (hSd.out.below hB21); replace hFt := Mr.hid (hFt.out.below hB21); clear hown hB21)
           | (go_at_call 6; refine (FD.out _ _ _ _ hS2.out).mono ?_; clear FD; rintro e w22 ⟨vy, rfl, hh, hB22⟩; have hSy := Mr.hid (Sl.of_has hh); obtain ⟨yx, cyx, rfl, hcyx⟩ := hh.form; replace hSd := Mr.hid (hSd.out.below hB22); replace hFt := Mr.hid (hFt.out.below hB22); clear hh hB22))
          have SId := Mr.hid (SI.out _ _ _ _ _ lx (by omega) hSd.out hSy.out)
          go_wp2_with (go_at_call 8; refine SId.out.mono ?_; clear SId; rintro e w23 ⟨rfl, hB23⟩; replace hFt := Mr.hid (hFt.out.below hB23); clear hB23)
          go_ret
          exact ⟨rfl, hFt.out.bel⟩
        ·have hlJ : decide ((i : Int) < (n : Int)) = false := decide_eq_false (by omega)
         have hdl := Mr.hid (mx_len (os := os) (cs := cs) (i := i) (by have := hm.out; omega) (by have := hn.out; omega))
         have hwx := mx_wf hwo hwf i
         have FD : Hid (∀ w' (T : Nat → Prop) a' cap' (h : Sl w' T 9 (.slice a' (n + 1) cap') (n + 1) (cqs (mx os cs i ++ [mk77]))), Calls Tryz.prog 6 #[.slice a' n cap'] w' (FdC w' (mx os cs i))) := fun w' T a' cap' h => by
          have e : n = (mx os cs i).length := by rw [hdl.out, hn.out]
          rw [e] at h ⊢
          exact Find_one (sl_cut h) (by rw [← e]; omega) hwx
         have TD : Hid (∀ w' (T : Nat → Prop) a' cap' (h : Sl w' T 9 (.slice a' (n + 1) cap') (n + 1) (cqs (mx os cs i ++ [mk77]))), Calls Tryz.prog 5 #[.slice a' n cap'] w' fun e w'' => ∃ a2 cap2, e = .returned (.slice a2 n cap2) ∧ Md.Own w'' (fun k => w'.heap.size ≤ k) 45 9 (.slice a2 (n + 1) cap2) (n + 1) (cqs (mx os cs i ++ [mk77])) ∧ Below w'.heap.size w' w'') := fun w' T a' cap' h => by
          have e : n = (mx os cs i).length := by rw [hdl.out, hn.out]
          have e2 : n * 72 ≤ 140737488351232 := hsm
          rw [e] at h e2 ⊢
          exact twin_any (sl_cut h) e2
         have hfx := fL_len (mx os cs i)
         unfold FdC at FD
         generalize fE (mx os cs i) = fx at *
         generalize fL (mx os cs i) = lx at *
         have q3 : (fx == fx) = true := by simp
         replace hFt := Mr.hid hFt
         go_upto_region 45 with (go_at_call 6; refine (FD.out _ _ _ _ hFt.out.tw.sl).mono ?_; rintro e w20 ⟨vd, rfl, hh, hB20⟩; have hSd := Mr.hid (Sl.of_has hh); obtain ⟨dx, cdx, rfl, hcdx⟩ := hh.form; replace hFt := Mr.hid (hFt.out.below hB20); clear hh hB20)
         go_upto_region 46 with (first
          | (go_at_call 5; refine (TD.out _ _ _ _ hFt.out.tw.sl).mono ?_; clear TD; rintro e w21 ⟨a2, cap2, rfl, hown, hB21⟩; have hS2 := Mr.hid hown.sl; replace hSd := Mr.hid (hSd.out.below hB21); replace hFt := Mr.hid (hFt.out.below hB21); clear hown hB21)
          | (go_at_call 6; refine (FD.out _ _ _ _ hS2.out).mono ?_; clear FD; rintro e w22 ⟨vy, rfl, hh, hB22⟩; have hSy := Mr.hid (Sl.of_has hh); obtain ⟨yx, cyx, rfl, hcyx⟩ := hh.form; replace hSd := Mr.hid (hSd.out.below hB22); replace hFt := Mr.hid (hFt.out.below hB22); clear hh hB22))
         have SId := Mr.hid (SI.out _ _ _ _ _ lx (by omega) hSd.out hSy.out)
         go_wp2_with (go_at_call 8; refine SId.out.mono ?_; clear SId; rintro e w23 ⟨rfl, hB23⟩; replace hFt := Mr.hid (hFt.out.below hB23); clear hB23)
         go_ret
         exact ⟨rfl, hFt.out.bel⟩
theorem walk_fresh (v : Value) (cs : List Cq) (u : Value) (os : List Cq) (W : World) (hv : Sl W (fun _ => True) 9 v cs.length (cqs cs)) (hsm : cs.length * 72 ≤ 140737488351232) (hwf : ∀ c ∈ cs, WfC c) (hu : Sl W (fun _ => True) 9 u os.length (cqs os)) (hso : os.length * 72 ≤ 140737488351232) (hwo : ∀ c ∈ os, WfC c) :
  Calls Tryz.prog 4 #[v, u] W fun e w' => e = .returned (.bool true) ∧ Below W.heap.size W w' := law_fresh v u cs os W hv hu hsm hso hwf hwo
end Go.Proofs.YtnbibkohgppjnaaGreat.Ws
