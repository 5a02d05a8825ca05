import Derived.Test.YtedaoljmcfbbpaaGreatJ30
import Derived.Shelf.SlSortCmp.KitK
import Derived.Test.YtedaoljmcfbbpaaGreatShelfE
/-
  DEQUE: how two calls are held against each other.
-/
namespace Go.Proofs.YtedaoljmcfbbpaaGreat.Hd
open Go.RowKit Mr Md
set_option linter.unusedVariables false
set_option linter.unusedSimpArgs false
set_option maxRecDepth 100000
set_option maxHeartbeats 1000000 in
theorem compare_any (x y : Int) (w : World) : Calls Tryz.prog 44 #[.int .i64 x, .int .i64 y] w fun e w' => e = .returned (.int .i64 (cmpI x y)) ∧ w' = w := by
  rcases Int.lt_trichotomy x y with h | rfl | h
  · rw [cmpI_lt h]
    go_enter Tryz.func44, Tryz.ntmps44
    go_wp2
    go_ret
    exact ⟨rfl, rfl⟩
  · rw [cmpI_eq]
    go_enter Tryz.func44, Tryz.ntmps44
    go_wp2
    go_ret
    exact ⟨rfl, rfl⟩
  · rw [cmpI_gt h]
    have h' : ¬ x < y := by omega
    go_enter Tryz.func44, Tryz.ntmps44
    go_wp2
    go_ret
    exact ⟨rfl, rfl⟩
/-- The first one that is not 0. -/
def nz : List Int → Int
  | [] => 0
  | x :: l => if x = 0 then nz l else x
set_option maxHeartbeats 4000000 in
theorem or_any {w : World} {T : Nat → Prop} {v : Value} {l : List Int} (hv : Sl w T 1 v l.length (ints l)) (hn : l.length < 1000) : Calls Tryz.prog 43 #[v] w fun e w' => e = .returned (.int .i64 (nz l)) ∧ w' = w := by
  obtain ⟨a, cap, rfl, hcap⟩ := hv.form
  obtain ⟨n, hnn⟩ : ∃ n, n = l.length := ⟨_, rfl⟩
  rw [← hnn] at hv hn ⊢
  replace hv := Mr.hid hv
  replace hnn := Mr.hid hnn
  clear hcap
  obtain ⟨r, hr⟩ : ∃ r, r = nz l := ⟨_, rfl⟩
  rw [← hr]
  replace hr := Mr.hid hr
  go_enter Tryz.func43, Tryz.ntmps43
  go_wp2
  go_loopg [8] n (fun gk s8 wr => ∃ i : Nat, s8 = .int .i64 (i : Int) ∧ i + gk = n ∧ Hid (nz (l.drop i) = nz l) ∧ wr = w)
  case atStart => exact ⟨0, rfl, by omega, Mr.hid rfl, rfl⟩
  case round =>
    obtain ⟨i, rfl, hi, hz, rfl⟩ := hrel
    by_cases hlt : i < n
    · have hli : i < l.length := by have := hnn.out; omega
      obtain ⟨g1, o1, c1, e1, _, _, hl1, r1⟩ := hv.out.there (by omega)
      cases e1
      have k1 := r1 i _ (ints_get l i hli)
      have hdr : l.drop i = l[i]?.getD 0 :: l.drop (i + 1) := by rw [List.getElem?_eq_getElem hli]; simp
      have hlI : (i : Int) < (n : Int) := by omega
      clear r1
      rw [hdr] at hz
      clear hdr
      generalize l[i]?.getD 0 = q at *
      by_cases hq : q = 0
      · have q1 : (q != 0) = false := by simp [hq]
        have q2 : (q == 0) = true := by simp [hq]
        replace hq := Mr.hid hq
        go_wp2
        go_roundg (gk - 1)
        case measure => omega
        case rel => exact ⟨i + 1, by simp, by omega, Mr.hid (by have := hz.out; rw [nz, if_pos hq.out] at this; exact this), rfl⟩
      · have q1 : (q != 0) = true := by simp [hq]
        have q2 : (q == 0) = false := by simp [hq]
        replace hq := Mr.hid hq
        go_wp2
        go_ret
        have := hz.out
        rw [nz, if_neg hq.out] at this
        exact ⟨by rw [hr.out, ← this]; rfl, rfl⟩
    · have q1 : decide ((i : Int) < (n : Int)) = false := decide_eq_false (by omega)
      have q2 : decide (i < n) = false := decide_eq_false hlt
      go_wp2
      go_ret
      have := hz.out
      rw [List.drop_of_length_le (by have := hnn.out; omega)] at this
      exact ⟨by rw [hr.out, ← this]; rfl, rfl⟩
set_option maxHeartbeats 1000000 in
theorem rank_any (op : Int) (w : World) : Calls Tryz.prog 45 #[.int .i64 op] w fun e w' => e = .returned (.int .i64 (rk op)) ∧ w' = w := by
  by_cases h : op = 92
  · subst h
    rw [show rk 92 = 0 from rfl]
    go_enter Tryz.func45, Tryz.ntmps45
    go_wp2
    go_ret
    exact ⟨rfl, rfl⟩
  · rw [show rk op = 1 from if_neg h]
    have q1 : (op == 92) = false := by simp [h]
    go_enter Tryz.func45, Tryz.ntmps45
    go_wp2
    go_ret
    exact ⟨rfl, rfl⟩
theorem nz_two (a b : Cq) : nz [cmpI a.pt b.pt, cmpI (rk a.op) (rk b.op)] = cmpC a b := by
  unfold cmpC nz nz nz
  split
  · split <;> simp_all
  · rfl
/-- w' is w with blocks behind it. -/
def Gw (w w' : World) : Prop := ∃ q os, w' = Sort.grow (w.drewN q) os
theorem Gw.refl (w : World) : Gw w w := ⟨0, #[], by rw [Sort.grow_empty]; rfl⟩
theorem Gw.trans {a b c : World} (h : Gw a b) (k : Gw b c) : Gw a c := by
  obtain ⟨q, os, rfl⟩ := h
  obtain ⟨p, ps, rfl⟩ := k
  exact ⟨q + p, os ++ ps, by simp [World.drewN, Sort.grow, Nat.add_assoc, Array.append_assoc]⟩
theorem Gw.alloc {a b : World} (h : Gw a b) (o : Obj) : Gw a (b.alloc o) := h.trans ⟨0, #[o], by rw [Sort.alloc_eq_grow]; rfl⟩
theorem Gw.drew {a b : World} (h : Gw a b) : Gw a b.drew := h.trans ⟨1, #[], by rw [Sort.grow_empty]; rfl⟩
theorem Gw.cell {a b : World} (h : Gw a b) {p : Addr} (hp : p.block < a.heap.size) : b.cell? p = a.cell? p := by
  obtain ⟨q, os, rfl⟩ := h
  rw [Sort.cell?_grow _ _ _ (show p.block < (a.drewN q).heap.size from hp)]
  rfl
set_option maxHeartbeats 8000000 in
theorem inOrder_any (a b : Cq) (w : World) : Calls Tryz.prog 28 #[a.val, b.val] w fun e w' => e = .returned (.int .i64 (cmpC a b)) ∧ ∃ q os, w' = Sort.grow (w.drewN q) os := by
  have C1 : Hid (∀ (wb : World) (x y : Int) (W : World), Gw wb W → Calls Tryz.prog 44 #[.int .i64 x, .int .i64 y] W fun e w' => e = .returned (.int .i64 (cmpI x y)) ∧ Gw wb w') := fun wb x y W h => (compare_any x y W).mono (by rintro e w' ⟨rfl, rfl⟩; exact ⟨rfl, h⟩)
  have C2 : Hid (∀ (wb : World) (x : Int) (W : World), Gw wb W → Calls Tryz.prog 45 #[.int .i64 x] W fun e w' => e = .returned (.int .i64 (rk x)) ∧ Gw wb w') := fun wb x W h => (rank_any x W).mono (by rintro e w' ⟨rfl, rfl⟩; exact ⟨rfl, h⟩)
  have C4 : Hid (∀ (wb W : World), Gw wb W → Calls Tryz.prog 43 #[.slice (some ⟨W.heap.size, 0, none⟩) 2 2] (W.alloc (.cells #[.int .i64 (cmpI a.pt b.pt), .int .i64 (cmpI (rk a.op) (rk b.op))] 3 (0, 0))) fun e w' => e = .returned (.int .i64 (cmpC a b)) ∧ Gw wb w') := by
    intro wb W h
    rw [← nz_two]
    refine (or_any (T := fun _ => True) (l := [cmpI a.pt b.pt, cmpI (rk a.op) (rk b.op)]) ⟨rfl, _, 2, rfl, Nat.le_refl _, .inr ⟨W.heap.size, 0, rfl, trivial, by simp, fun j u hu => ?_⟩⟩ (by simp)).mono (by rintro e w' ⟨rfl, rfl⟩; exact ⟨rfl, h.alloc _⟩)
    rw [Nat.zero_add, Dq.cell_blk (new_at W _ _ rfl)]
    simpa [ints] using hu
  generalize cmpC a b = r at *
  obtain ⟨a0, a1, a2, a3, a4, a5, a6, a7, a8⟩ := a
  obtain ⟨b0, b1, b2, b3, b4, b5, b6, b7, b8⟩ := b
  simp only at C4
  unfold Cq.val
  go_enter Tryz.func28, Tryz.ntmps28
  go_upto_region 1 with (fail)
  have c0 := cqO_cells (a := ⟨a0, a1, a2, a3, a4, a5, a6, a7, a8⟩) (W := ((w.alloc (cqO ⟨a0, a1, a2, a3, a4, a5, a6, a7, a8⟩)).alloc (cqO ⟨b0, b1, b2, b3, b4, b5, b6, b7, b8⟩))) (old_at (new_at _ _ _ rfl) _)
  have c1 := cqO_cells (a := ⟨b0, b1, b2, b3, b4, b5, b6, b7, b8⟩) (W := ((w.alloc (cqO ⟨a0, a1, a2, a3, a4, a5, a6, a7, a8⟩)).alloc (cqO ⟨b0, b1, b2, b3, b4, b5, b6, b7, b8⟩))) (new_at _ _ (w.heap.size + 1) (by simp))
  have hl : w.heap.size + 1 < ((w.alloc (cqO ⟨a0, a1, a2, a3, a4, a5, a6, a7, a8⟩)).alloc (cqO ⟨b0, b1, b2, b3, b4, b5, b6, b7, b8⟩)).heap.size := by simp
  have hG := Mr.hid (((Gw.refl w).alloc (cqO ⟨a0, a1, a2, a3, a4, a5, a6, a7, a8⟩)).alloc (cqO ⟨b0, b1, b2, b3, b4, b5, b6, b7, b8⟩))
  unfold cqO at c0 c1 hl hG
  generalize ((w.alloc _).alloc _) = wb at *
  generalize w.heap.size = B at *
  have k1 := c0.c1
  have k6 := c0.c6
  have m1 := c1.c1
  have m6 := c1.c6
  simp only [Nat.zero_add] at k1 k6 m1 m6
  clear c0 c1
  have KK : Hid (∀ w', Gw wb w' → w'.cell? ⟨B, 1, none⟩ = some (.int .i64 a1) ∧ w'.cell? ⟨B + 1, 1, none⟩ = some (.int .i64 b1) ∧ w'.cell? ⟨B, 6, none⟩ = some (.int .i64 a6) ∧ w'.cell? ⟨B + 1, 6, none⟩ = some (.int .i64 b6)) := fun w' h =>
    ⟨(h.cell (p := ⟨B, _, none⟩) (by show B < _; omega)).trans k1, (h.cell (p := ⟨B + 1, _, none⟩) hl).trans m1, (h.cell (p := ⟨B, _, none⟩) (by show B < _; omega)).trans k6, (h.cell (p := ⟨B + 1, _, none⟩) hl).trans m6⟩
  have hD : Gw wb wb.drew := (Gw.refl wb).drew
  go_region_held3 (fun w' => w'.cell? ⟨B, 1, none⟩ = some (.int .i64 a1) ∧ w'.cell? ⟨B + 1, 1, none⟩ = some (.int .i64 b1) ∧ w'.cell? ⟨B, 6, none⟩ = some (.int .i64 a6) ∧ w'.cell? ⟨B + 1, 6, none⟩ = some (.int .i64 b6)) (first | exact KK.out _ (by assumption) | go_keep) (first | (go_at_call 44; refine (C1.out wb _ _ _ (by assumption)).mono ?_; rintro e w6 ⟨rfl, hB6⟩) | (go_at_call 45; refine (C2.out wb _ _ (by assumption)).mono ?_; rintro e w6 ⟨rfl, hB6⟩) | (go_at_call 43; refine (C4.out wb _ (by assumption)).mono ?_; rintro e w7 ⟨rfl, hB7⟩))
  go_wp2
  go_ret
  exact ⟨rfl, hG.out.trans hB7⟩
end Go.Proofs.YtedaoljmcfbbpaaGreat.Hd
/-
  DEQUE: slices.SortFunc of calls.
-/
namespace Go.Proofs.YtedaoljmcfbbpaaGreat.Hd
open Go.RowKit Mr Md
set_option linter.unusedVariables false
set_option linter.unusedSimpArgs false
set_option maxRecDepth 100000
theorem cmpI_cases (x y : Int) : (x < y ∧ cmpI x y = -1) ∨ (x = y ∧ cmpI x y = 0) ∨ (y < x ∧ cmpI x y = 1) := by
  rcases Int.lt_trichotomy x y with h | h | h
  · exact .inl ⟨h, cmpI_lt h⟩
  · subst h; exact .inr (.inl ⟨rfl, cmpI_eq _⟩)
  · exact .inr (.inr ⟨h, cmpI_gt h⟩)
theorem ltC_iff (a b : Cq) : ltOf cmpC a b = true ↔ Cq.lt a b := by
  unfold ltOf cmpC Cq.lt
  rcases cmpI_cases a.pt b.pt with ⟨h1, e1⟩ | ⟨h1, e1⟩ | ⟨h1, e1⟩ <;> rcases cmpI_cases (rk a.op) (rk b.op) with ⟨h2, e2⟩ | ⟨h2, e2⟩ | ⟨h2, e2⟩ <;> simp [e1, e2] <;> omega
theorem swoC : Sort.SWO (ltOf cmpC) := by
  refine ⟨fun x => ?_, fun x y z h1 h2 => ?_, fun x y z h1 h2 => ?_⟩
  · cases h : ltOf cmpC x x with
    | false => rfl
    | true => exact absurd ((ltC_iff x x).1 h) Cq.lt_irrefl
  · exact (ltC_iff _ _).2 (Cq.lt_trans ((ltC_iff _ _).1 h1) ((ltC_iff _ _).1 h2))
  · have n1 : ¬ Cq.lt x y := fun h => by rw [(ltC_iff _ _).2 h] at h1; cases h1
    have n2 : ¬ Cq.lt y z := fun h => by rw [(ltC_iff _ _).2 h] at h2; cases h2
    cases h : ltOf cmpC x z with
    | false => rfl
    | true => have := (ltC_iff _ _).1 h; unfold Cq.lt at *; omega
theorem cqs_flat (l : List Cq) (j : Nat) (hj : j < l.length * 9) : (cqs l)[j]? = some ((Cq.row (l.toArray)[j / 9]!)[j % 9]!) := by
  have h1 : j / 9 < l.length := by omega
  have h2 : j % 9 < 9 := Nat.mod_lt _ (by omega)
  have := cqs_get l (j / 9) (l[j / 9]) (List.getElem?_eq_getElem h1) (j % 9) h2
  rw [show j / 9 * 9 + j % 9 = j from by omega] at this
  rw [this]
  have e : (l.toArray)[j / 9]! = l[j / 9] := by simp [h1]
  rw [e, List.getElem?_eq_getElem (by simpa [Cq.row] using h2), List.getElem!_eq_getElem?_getD, List.getElem?_eq_getElem (by simpa [Cq.row] using h2)]
  rfl
theorem sortC_any {W : World} {S : Nat → Prop} {u : Value} {l : List Cq} (hu : Md.Own W S 45 9 u l.length (cqs l)) (hsz : l.length < 4611686018427387904) :
    Calls Tryz.prog 27 #[u, .func (.func 28) #[] #[]] W fun e w' => e = .returned (.tuple #[]) ∧ Fr W w' S ∧ ∃ l' : List Cq, l'.Perm l ∧ l'.Pairwise (fun a b => ¬ Cq.lt b a) ∧ Sl w' S 9 u l'.length (cqs l') := by
  by_cases h0 : l.length = 0
  · obtain ⟨au, cu, rfl, hc, _⟩ := hu.form
    have hz : l = [] := List.eq_nil_of_length_eq_zero h0
    subst hz
    have := AnyF.slices_SortFunc_none Tryz.laysEv au cu (.func (.func 28) #[] #[]) W
    refine Calls.mono (show Calls Tryz.prog 27 _ W _ from this) ?_
    rintro e w' ⟨rfl, rfl⟩
    exact ⟨rfl, Fr.refl _ _, [], List.Perm.refl _, List.Pairwise.nil, hu.sl⟩
  · obtain ⟨g, o, cu, cur, rfl, hc, hm, hSg, hg, hs, hx⟩ := hu.there (by omega)
    have hl2 := (Array.getElem?_eq_some_iff.1 hg).1
    have hH : Sort.HoldsK Cq.row 9 W g o l.toArray := by
      intro j hj
      have hj' : j < l.length * 9 := by simpa using hj
      refine ⟨?_, by simp [World.frozen?, hg]⟩
      rw [own_cells hg hx j _ (cqs_flat l j hj'), Sort.get_flatK _ _ _ _ (by simpa using hj')]
      rfl
    have hcmp : CmpLays Tryz.prog 28 #[] Cq.row 9 cmpC g o l.toArray.size W := fun m os dk hdk x y => inOrder_any x y _
    have eg : ∀ args w, (callFunc 28 args).run Tryz.prog w = .ok (.enter 28 args) w := enters_of Tryz.func28 (by kernel_rfl) rfl
    have := AnyQ.slices_SortFunc Tryz.laysEv 9 Tryz.isAgg45 Tryz.sizeOf45 Cq.row (fun _ => rfl) (fun x v hv => by simp [Cq.row] at hv; rcases hv with rfl | rfl | rfl | rfl | rfl | rfl | rfl | rfl | rfl <;> rfl) cmpC swoC 28 #[] g o cu l.toArray W eg hcmp hH hl2 (by simpa using hsz)
    refine Calls.mono (show Calls Tryz.prog 27 #[.slice (some ⟨g, o, none⟩) l.length cu, .func (.func 28) #[] #[]] W _ from this) ?_
    rintro e w' ⟨rfl, d', n, os, hp, hsd, rfl⟩
    have hsz' : d'.size = l.length := by have := hp.1; simpa using this
    have hperm : d'.toList.Perm l := by
      have h9 : (List.take l.length d'.toList).Perm l := by
        have := hp.2.2
        simpa [hsz', Array.extract_size] using this
      rwa [List.take_of_length_le (by simp [hsz'])] at h9
    refine ⟨rfl, ⟨rfl, rfl, rfl, by unfold sortWorldK Sort.putRowK; simp, fun k hk hne => ?_⟩, d'.toList, hperm, ?_, ?_⟩
    · unfold sortWorldK
      rw [Sort.heap_grow_old _ _ (by unfold Sort.putRowK; simpa using hk)]
      have : g ≠ k := fun e => hne (by rw [← e]; exact hSg)
      simp [Sort.putRowK, Sort.putRow, Sort.mapBlock, Sort.ahead, Array.getElem?_modify, this]
    · rw [List.pairwise_iff_getElem]
      intro i j hi hj hij hlt
      have h1 := hsd i j (Nat.zero_le _) hij (by simp at hj ⊢; omega)
      simp at hi hj
      simp [hi, hj] at h1
      rw [(ltC_iff _ _).2 (by simpa using hlt)] at h1
      cases h1
    · have el : d'.toList.length = l.length := by simp [hsz']
      refine ⟨cqs_length _, _, cu, by rw [el], by rw [el]; exact hc, .inr ⟨g, o, rfl, hSg, by unfold sortWorldK Sort.putRowK; simp; omega, fun j v hv => ?_⟩⟩
      have hj : j < l.length * 9 := by have := (List.getElem?_eq_some_iff.1 hv).1; rw [cqs_length, el] at this; exact this
      unfold sortWorldK
      rw [Sort.cell?_grow _ _ _ (by unfold Sort.putRowK; simpa using hl2)]
      have := Sort.cell?_putRow id (Sort.ahead W n) g o (Sort.flatK Cq.row 9 l.toArray) (Sort.flatK Cq.row 9 d') hH (by simp [hsz']) j (by simpa [hsz'] using hj)
      unfold Sort.putRowK
      rw [this, Sort.get_flatK _ _ _ _ (by rw [hsz']; exact hj)]
      rw [cqs_flat _ _ (by rw [el]; exact hj)] at hv
      simpa using hv
end Go.Proofs.YtedaoljmcfbbpaaGreat.Hd
