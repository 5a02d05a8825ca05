import Derived.Test.YtpknggcgojkjgaaGreatJ17
import Derived.Deep.RegionHeld3
import Derived.Shelf.SlSortCmp.WholeK
import Derived.Test.YtpknggcgojkjgaaGreatShelfE
/-
  CENSUS: two events held against each other, the closure.
-/
namespace Go.Proofs.YtpknggcgojkjgaaGreat.Cn
open Go.RowKit Mr Md
set_option linter.unusedVariables false
set_option linter.unusedSimpArgs false
set_option maxRecDepth 100000
/-- w' is w with blocks behind it. -/
def Gw (w w' : World) : Prop := ∃ q os, w' = Sort.grow (w.drewN q) os
theorem Gw.refl (w : World) : Gw w w := ⟨0, #[], by rw [Sort.grow_empty]; rfl⟩
theorem Gw.trans {a b c : World} (h : Gw a b) (k : Gw b c) : Gw a c := by
  obtain ⟨q, os, rfl⟩ := h
  obtain ⟨p, ps, rfl⟩ := k
  exact ⟨q + p, os ++ ps, by simp [World.drewN, Sort.grow, Nat.add_assoc, Array.append_assoc]⟩
theorem Gw.alloc {a b : World} (h : Gw a b) (o : Obj) : Gw a (b.alloc o) := h.trans ⟨0, #[o], by rw [Sort.alloc_eq_grow]; rfl⟩
theorem Gw.drew {a b : World} (h : Gw a b) : Gw a b.drew := h.trans ⟨1, #[], by rw [Sort.grow_empty]; rfl⟩
theorem Gw.cell {a b : World} (h : Gw a b) {p : Addr} (hp : p.block < a.heap.size) : b.cell? p = a.cell? p := by
  obtain ⟨q, os, rfl⟩ := h
  rw [Sort.cell?_grow _ _ _ (show p.block < (a.drewN q).heap.size from hp)]
  rfl
set_option maxHeartbeats 8000000 in
theorem cmpE_any (a b : Ev) (w : World) : Calls Tryz.prog 115 #[a.val, b.val] w fun e w' => e = .returned (.int .i64 (cmpE a b)) ∧ ∃ q os, w' = Sort.grow (w.drewN q) os := by
  have C1 : Hid (∀ (wb : World) (x y : Int) (W : World), Gw wb W → Calls Tryz.prog 93 #[.int .i64 x, .int .i64 y] W fun e w' => e = .returned (.int .i64 (cmpI x y)) ∧ Gw wb w') := fun wb x y W h => (compare_any x y W).mono (by rintro e w' ⟨rfl, rfl⟩; exact ⟨rfl, h⟩)
  have C2 : Hid (∀ (wb : World) (x y : Int) (W : World), Gw wb W → Calls Tryz.prog 117 #[.int .i64 x, .int .i64 y] W fun e w' => e = .returned (.int .i64 (cmpI x y)) ∧ Gw wb w') := fun wb x y W h => (compareK_any x y W).mono (by rintro e w' ⟨rfl, rfl⟩; exact ⟨rfl, h⟩)
  have C4 : Hid (∀ (wb W : World), Gw wb W → Calls Tryz.prog 116 #[.slice (some ⟨W.heap.size, 0, none⟩) 3 3] (W.alloc (.cells #[.int .i64 (cmpI a.mv b.mv), .int .i64 (cmpI a.kd b.kd), .int .i64 (cmpI a.nb b.nb)] 3 (0, 0))) fun e w' => e = .returned (.int .i64 (cmpE a b)) ∧ Gw wb w') := by
    intro wb W h
    refine (or_any (T := fun _ => True) (l := [cmpI a.mv b.mv, cmpI a.kd b.kd, cmpI a.nb b.nb]) ⟨rfl, _, 3, rfl, Nat.le_refl _, .inr ⟨W.heap.size, 0, rfl, trivial, by simp, fun j u hu => ?_⟩⟩ (by simp)).mono (by rintro e w' ⟨rfl, rfl⟩; exact ⟨rfl, h.alloc _⟩)
    rw [Nat.zero_add, cell_blk (new_at W _ _ rfl)]
    simpa [ints] using hu
  generalize cmpE a b = r at *
  obtain ⟨k, m, t, n⟩ := a
  obtain ⟨k', m', t', n'⟩ := b
  simp only at C4
  unfold Ev.val
  go_enter Tryz.func115, Tryz.ntmps115
  go_upto_region 1 with (fail)
  have c0 := evO_cells (e := ⟨k, m, t, n⟩) (W := ((w.alloc (evO ⟨k, m, t, n⟩)).alloc (evO ⟨k', m', t', n'⟩))) (old_at (new_at _ _ _ rfl) _)
  have c1 := evO_cells (e := ⟨k', m', t', n'⟩) (W := ((w.alloc (evO ⟨k, m, t, n⟩)).alloc (evO ⟨k', m', t', n'⟩))) (new_at _ _ (w.heap.size + 1) (by simp))
  have hl : w.heap.size + 1 < ((w.alloc (evO ⟨k, m, t, n⟩)).alloc (evO ⟨k', m', t', n'⟩)).heap.size := by simp
  have hG := Mr.hid (((Gw.refl w).alloc (evO ⟨k, m, t, n⟩)).alloc (evO ⟨k', m', t', n'⟩))
  unfold evO at c0 c1 hl hG
  generalize ((w.alloc _).alloc _) = wb at *
  generalize w.heap.size = B at *
  obtain ⟨a0, a1, a2, a3⟩ := c0
  obtain ⟨b0, b1, b2, b3⟩ := c1
  have KK : Hid (∀ w', Gw wb w' → w'.cell? ⟨B, 1, none⟩ = some (.int .i64 m) ∧ w'.cell? ⟨B + 1, 1, none⟩ = some (.int .i64 m') ∧ w'.cell? ⟨B, 0, none⟩ = some (.int .i64 k) ∧ w'.cell? ⟨B + 1, 0, none⟩ = some (.int .i64 k') ∧ w'.cell? ⟨B, 3, none⟩ = some (.int .i64 n) ∧ w'.cell? ⟨B + 1, 3, none⟩ = some (.int .i64 n')) := fun w' h =>
    ⟨(h.cell (p := ⟨B, _, none⟩) (by show B < _; omega)).trans a1, (h.cell (p := ⟨B + 1, _, none⟩) hl).trans b1, (h.cell (p := ⟨B, _, none⟩) (by show B < _; omega)).trans a0, (h.cell (p := ⟨B + 1, _, none⟩) hl).trans b0, (h.cell (p := ⟨B, _, none⟩) (by show B < _; omega)).trans a3, (h.cell (p := ⟨B + 1, _, none⟩) hl).trans b3⟩
  have hD : Gw wb wb.drew := (Gw.refl wb).drew
  go_region_held3 (fun w' => w'.cell? ⟨B, 1, none⟩ = some (.int .i64 m) ∧ w'.cell? ⟨B + 1, 1, none⟩ = some (.int .i64 m') ∧ w'.cell? ⟨B, 0, none⟩ = some (.int .i64 k) ∧ w'.cell? ⟨B + 1, 0, none⟩ = some (.int .i64 k') ∧ w'.cell? ⟨B, 3, none⟩ = some (.int .i64 n) ∧ w'.cell? ⟨B + 1, 3, none⟩ = some (.int .i64 n')) (first | exact KK.out _ (by assumption) | go_keep) (first | (go_at_call 93; refine (C1.out wb _ _ _ (by assumption)).mono ?_; rintro e w6 ⟨rfl, hB6⟩) | (go_at_call 117; refine (C2.out wb _ _ _ (by assumption)).mono ?_; rintro e w6 ⟨rfl, hB6⟩) | (go_at_call 116; refine (C4.out wb _ (by assumption)).mono ?_; rintro e w7 ⟨rfl, hB7⟩))
  go_wp2
  go_ret
  exact ⟨rfl, hG.out.trans hB7⟩
end Go.Proofs.YtpknggcgojkjgaaGreat.Cn
/-
  CENSUS: slices.SortFunc of events.
-/
namespace Go.Proofs.YtpknggcgojkjgaaGreat.Cn
open Go.RowKit Mr Md
set_option linter.unusedVariables false
set_option linter.unusedSimpArgs false
set_option maxRecDepth 100000
theorem cmpI_cases (x y : Int) : (x < y ∧ cmpI x y = -1) ∨ (x = y ∧ cmpI x y = 0) ∨ (y < x ∧ cmpI x y = 1) := by
  rcases Int.lt_trichotomy x y with h | h | h
  · exact .inl ⟨h, cmpI_lt h⟩
  · subst h; exact .inr (.inl ⟨rfl, cmpI_eq _⟩)
  · exact .inr (.inr ⟨h, cmpI_gt h⟩)
theorem ltE_iff (a b : Ev) : ltOf cmpE a b = true ↔ Ev.lt a b := by
  unfold ltOf cmpE Ev.lt
  rcases cmpI_cases a.mv b.mv with ⟨h1, e1⟩ | ⟨h1, e1⟩ | ⟨h1, e1⟩ <;> rcases cmpI_cases a.kd b.kd with ⟨h2, e2⟩ | ⟨h2, e2⟩ | ⟨h2, e2⟩ <;> rcases cmpI_cases a.nb b.nb with ⟨h3, e3⟩ | ⟨h3, e3⟩ | ⟨h3, e3⟩ <;> simp [nz, e1, e2, e3] <;> omega
theorem swoE : Sort.SWO (ltOf cmpE) := by
  refine ⟨fun x => ?_, fun x y z h1 h2 => ?_, fun x y z h1 h2 => ?_⟩
  · cases h : ltOf cmpE x x with
    | false => rfl
    | true => exact absurd ((ltE_iff x x).1 h) Ev.lt_irrefl
  · exact (ltE_iff _ _).2 (Ev.lt_trans ((ltE_iff _ _).1 h1) ((ltE_iff _ _).1 h2))
  · have n1 : ¬ Ev.lt x y := fun h => by rw [(ltE_iff _ _).2 h] at h1; cases h1
    have n2 : ¬ Ev.lt y z := fun h => by rw [(ltE_iff _ _).2 h] at h2; cases h2
    cases h : ltOf cmpE x z with
    | false => rfl
    | true => have := (ltE_iff _ _).1 h; unfold Ev.lt at *; omega
theorem evs_flat (l : List Ev) (j : Nat) (hj : j < l.length * 4) : (evs l)[j]? = some ((Ev.row (l.toArray)[j / 4]!)[j % 4]!) := by
  have h1 : j / 4 < l.length := by omega
  have h2 : j % 4 < 4 := Nat.mod_lt _ (by omega)
  have := evs_get l (j / 4) (l[j / 4]) (List.getElem?_eq_getElem h1) (j % 4) h2
  rw [show j / 4 * 4 + j % 4 = j from by omega] at this
  rw [this]
  have e : (l.toArray)[j / 4]! = l[j / 4] := by simp [h1]
  rw [e, List.getElem?_eq_getElem (by simpa [Ev.row] using h2), List.getElem!_eq_getElem?_getD, List.getElem?_eq_getElem (by simpa [Ev.row] using h2)]
  rfl
theorem sortE_any {W : World} {S : Nat → Prop} {u : Value} {l : List Ev} (hu : Own W S 85 4 u l.length (evs l)) (hsz : l.length < 4611686018427387904) :
    Calls Tryz.prog 114 #[u, .func (.func 115) #[] #[]] W fun e w' => e = .returned (.tuple #[]) ∧ Fr W w' S ∧ ∃ l' : List Ev, l'.Perm l ∧ l'.Pairwise (fun a b => ¬ Ev.lt b a) ∧ Sl w' S 4 u l'.length (evs l') := by
  by_cases h0 : l.length = 0
  · obtain ⟨au, cu, rfl, hc, _⟩ := hu.form
    have hz : l = [] := List.eq_nil_of_length_eq_zero h0
    subst hz
    have := AnyF.slices_SortFunc_none Tryz.laysEv au cu (.func (.func 115) #[] #[]) W
    refine Calls.mono (show Calls Tryz.prog 114 _ W _ from this) ?_
    rintro e w' ⟨rfl, rfl⟩
    exact ⟨rfl, Fr.refl _ _, [], List.Perm.refl _, List.Pairwise.nil, hu.sl⟩
  · obtain ⟨g, o, cu, cur, rfl, hc, hm, hSg, hg, hs, hx⟩ := hu.there (by omega)
    have hl2 := (Array.getElem?_eq_some_iff.1 hg).1
    have hH : Sort.HoldsK Ev.row 4 W g o l.toArray := by
      intro j hj
      have hj' : j < l.length * 4 := by simpa using hj
      refine ⟨?_, by simp [World.frozen?, hg]⟩
      rw [own_cells hg hx j _ (evs_flat l j hj'), Sort.get_flatK _ _ _ _ (by simpa using hj')]
      rfl
    have hcmp : CmpLays Tryz.prog 115 #[] Ev.row 4 cmpE g o l.toArray.size W := fun m os dk hdk x y => cmpE_any x y _
    have eg : ∀ args w, (callFunc 115 args).run Tryz.prog w = .ok (.enter 115 args) w := enters_of Tryz.func115 (by kernel_rfl) rfl
    have := AnyQ.slices_SortFunc Tryz.laysEv 4 Tryz.isAgg85 Tryz.sizeOf85 Ev.row (fun _ => rfl) (fun x v hv => by simp [Ev.row] at hv; rcases hv with rfl | rfl | rfl | rfl <;> rfl) cmpE swoE 115 #[] g o cu l.toArray W eg hcmp hH hl2 (by simpa using hsz)
    refine Calls.mono (show Calls Tryz.prog 114 #[.slice (some ⟨g, o, none⟩) l.length cu, .func (.func 115) #[] #[]] W _ from this) ?_
    rintro e w' ⟨rfl, d', n, os, hp, hsd, rfl⟩
    have hsz' : d'.size = l.length := by have := hp.1; simpa using this
    have hperm : d'.toList.Perm l := by
      have h9 : (List.take l.length d'.toList).Perm l := by
        have := hp.2.2
        simpa [hsz', Array.extract_size] using this
      rwa [List.take_of_length_le (by simp [hsz'])] at h9
    refine ⟨rfl, ⟨rfl, rfl, rfl, by unfold sortWorldK Sort.putRowK; simp, fun k hk hne => ?_⟩, d'.toList, hperm, ?_, ?_⟩
    · unfold sortWorldK
      rw [Sort.heap_grow_old _ _ (by unfold Sort.putRowK; simpa using hk)]
      have : g ≠ k := fun e => hne (by rw [← e]; exact hSg)
      simp [Sort.putRowK, Sort.putRow, Sort.mapBlock, Sort.ahead, Array.getElem?_modify, this]
    · rw [List.pairwise_iff_getElem]
      intro i j hi hj hij hlt
      have h1 := hsd i j (Nat.zero_le _) hij (by simp at hj ⊢; omega)
      simp at hi hj
      simp [hi, hj] at h1
      rw [(ltE_iff _ _).2 (by simpa using hlt)] at h1
      cases h1
    · have el : d'.toList.length = l.length := by simp [hsz']
      refine ⟨evs_length _, _, cu, by rw [el], by rw [el]; exact hc, .inr ⟨g, o, rfl, hSg, by unfold sortWorldK Sort.putRowK; simp; omega, fun j v hv => ?_⟩⟩
      have hj : j < l.length * 4 := by have := (List.getElem?_eq_some_iff.1 hv).1; rw [evs_length, el] at this; exact this
      unfold sortWorldK
      rw [Sort.cell?_grow _ _ _ (by unfold Sort.putRowK; simpa using hl2)]
      have := Sort.cell?_putRow id (Sort.ahead W n) g o (Sort.flatK Ev.row 4 l.toArray) (Sort.flatK Ev.row 4 d') hH (by simp [hsz']) j (by simpa [hsz'] using hj)
      unfold Sort.putRowK
      rw [this, Sort.get_flatK _ _ _ _ (by rw [hsz']; exact hj)]
      rw [evs_flat _ _ (by rw [el]; exact hj)] at hv
      simpa using hv
end Go.Proofs.YtpknggcgojkjgaaGreat.Cn
