import Derived.Test.YtnapnhmmopajfaaGreatJ22
import Derived.Test.YtnapnhmmopajfaaGreatJ12
import Derived.Test.YtnapnhmmopajfaaGreatJ20
import Derived.Test.YtnapnhmmopajfaaGreatJ02
/-
  book.run and Machine.Run by their contracts.
-/
namespace Go.Proofs.YtnapnhmmopajfaaGreat.Ma
open Go.RowKit Go.Shelf Mr Me
/-- A run's value. -/
def runV (vc vt vs vw : Value) : Value := .agg #[vc, vt, vs, vw]
/-- The run's box, as it was made. -/
def Bx (W : World) (w : World) : Prop := Below W.heap.size W w ∧ w.heap[W.heap.size]? = some (.cells #[.slice none 0 0, .slice none 0 0, .slice none 0 0, .slice none 0 0] 33 (0, 0))
theorem Bx.below {W w w' : World} (h : Bx W w) (hB : Below w.heap.size w w') : Bx W w' :=
  ⟨h.1.trans (hB.mono h.1.size), (hB.block _ (Array.getElem?_eq_some_iff.1 h.2).1).trans h.2⟩
theorem Bx.cells {W w : World} (h : Bx W w) : (∀ j, j < 4 → w.cell? ⟨W.heap.size, j, none⟩ = some (.slice none 0 0)) ∧ ∀ j, w.frozen? ⟨W.heap.size, j, none⟩ = false := by
  refine ⟨fun j hj => ?_, fun j => by simp [World.frozen?, h.2]⟩
  have hj' : j = 0 ∨ j = 1 ∨ j = 2 ∨ j = 3 := by omega
  rcases hj' with rfl | rfl | rfl | rfl <;> simp [World.cell?, h.2]
section
variable {W : World} {U S : Nat → Prop} {b bb bm : Nat} {vk vt vc vs vw vl va : Value} {ths : List Th} {n : Int} {cls : List Cl} {shs : List Sh} {ws : List Int} {mv : Int} {lg : List Acc} {ah : List Int}
set_option maxRecDepth 100000 in
set_option maxHeartbeats 8000000 in
theorem run_any (h : Mac W U S b bb bm vk vt vc vs vw vl va ths n cls shs ws mv lg ah) (hcl : cls.length ≤ 100000) (hsh : shs.length ≤ 100000) (hlg : lg.length ≤ 100000) :
    Calls Tryz.prog 26 #[.pointer (some ⟨bb, 0, none⟩)] W fun e w' => ∃ v1 v2 v3 v4, e = .returned (runV v1 v2 v3 v4) ∧ Has w' (fun k => W.heap.size ≤ k) 61 9 v1 cls.length (clc cls) ∧ Has w' (fun k => W.heap.size ≤ k) 65 7 v2 lg.length (lgc lg) ∧ Has w' (fun k => W.heap.size ≤ k) 68 5 v3 shs.length (shc shs) ∧ Has w' (fun k => W.heap.size ≤ k) 63 1 v4 ws.length (wrd ws) ∧ Below W.heap.size W w' := by
  obtain ⟨acv, ccv, hvc, _⟩ := h.cal.form
  obtain ⟨asv, csv, hvs, _⟩ := h.shf.form
  subst hvc hvs
  have C1 := fun (w1 : World) (hx : Bx W w1) => (cloneCl_any (h.below hx.1).cal hcl).mono (R' := fun e w' => ∃ v, e = .returned v ∧ Has w' (fun k => W.heap.size ≤ k) 61 9 v cls.length (clc cls) ∧ Below w1.heap.size w1 w' ∧ Bx W w' ∧ w'.cell? ⟨bb, 0, none⟩ = some (.pointer (some ⟨bm, 0, none⟩)) ∧ w'.cell? ⟨bb, 1, none⟩ = some (.slice acv cls.length ccv) ∧ w'.cell? ⟨bb, 2, none⟩ = some (.slice asv shs.length csv)) (by
    rintro e w' ⟨v, rfl, h1, h2⟩
    have hx' := hx.below h2
    exact ⟨v, rfl, h1.mono (fun k hk => Nat.le_trans hx.1.size hk), h2, hx', (h.below hx'.1).b0, (h.below hx'.1).b1, (h.below hx'.1).b2⟩)
  have C2 := fun (w1 : World) (hx : Bx W w1) => (trace_any (h.below hx.1).mem hlg (h.below hx.1).b0).mono (R' := fun e w' => ∃ v, e = .returned v ∧ Has w' (fun k => W.heap.size ≤ k) 65 7 v lg.length (lgc lg) ∧ Below w1.heap.size w1 w' ∧ Bx W w' ∧ w'.cell? ⟨bb, 0, none⟩ = some (.pointer (some ⟨bm, 0, none⟩)) ∧ w'.cell? ⟨bb, 1, none⟩ = some (.slice acv cls.length ccv) ∧ w'.cell? ⟨bb, 2, none⟩ = some (.slice asv shs.length csv)) (by
    rintro e w' ⟨v, rfl, h1, h2⟩
    have hx' := hx.below h2
    exact ⟨v, rfl, h1.mono (fun k hk => Nat.le_trans hx.1.size hk), h2, hx', (h.below hx'.1).b0, (h.below hx'.1).b1, (h.below hx'.1).b2⟩)
  have C3 := fun (w1 : World) (hx : Bx W w1) => (cloneSh_any (h.below hx.1).shf hsh).mono (R' := fun e w' => ∃ v, e = .returned v ∧ Has w' (fun k => W.heap.size ≤ k) 68 5 v shs.length (shc shs) ∧ Below w1.heap.size w1 w' ∧ Bx W w' ∧ w'.cell? ⟨bb, 0, none⟩ = some (.pointer (some ⟨bm, 0, none⟩)) ∧ w'.cell? ⟨bb, 1, none⟩ = some (.slice acv cls.length ccv) ∧ w'.cell? ⟨bb, 2, none⟩ = some (.slice asv shs.length csv)) (by
    rintro e w' ⟨v, rfl, h1, h2⟩
    have hx' := hx.below h2
    exact ⟨v, rfl, h1.mono (fun k hk => Nat.le_trans hx.1.size hk), h2, hx', (h.below hx'.1).b0, (h.below hx'.1).b1, (h.below hx'.1).b2⟩)
  have C4 := fun (w1 : World) (hx : Bx W w1) => (words_any (h.below hx.1).mem).mono (R' := fun e w' => ∃ v, e = .returned v ∧ Has w' (fun k => W.heap.size ≤ k) 63 1 v ws.length (wrd ws) ∧ Below w1.heap.size w1 w' ∧ Bx W w' ∧ w'.cell? ⟨bb, 0, none⟩ = some (.pointer (some ⟨bm, 0, none⟩)) ∧ w'.cell? ⟨bb, 1, none⟩ = some (.slice acv cls.length ccv) ∧ w'.cell? ⟨bb, 2, none⟩ = some (.slice asv shs.length csv)) (by
    rintro e w' ⟨v, rfl, h1, h2⟩
    have hx' := hx.below h2
    exact ⟨v, rfl, h1.mono (fun k hk => Nat.le_trans hx.1.size hk), h2, hx', (h.below hx'.1).b0, (h.below hx'.1).b1, (h.below hx'.1).b2⟩)
  have hx0 : Bx W (W.alloc (.cells #[.slice none 0 0, .slice none 0 0, .slice none 0 0, .slice none 0 0] 33)).drew := ⟨((Below.refl _ _).alloc (Nat.le_refl _) _).drew, heap_alloc_new W _⟩
  have e0 : (W.alloc (.cells #[.slice none 0 0, .slice none 0 0, .slice none 0 0, .slice none 0 0] 33)).cell? ⟨bb, 0, none⟩ = some (.pointer (some ⟨bm, 0, none⟩)) := (h.below hx0.1).b0
  have e1 : (W.alloc (.cells #[.slice none 0 0, .slice none 0 0, .slice none 0 0, .slice none 0 0] 33)).cell? ⟨bb, 1, none⟩ = some (.slice acv cls.length ccv) := (h.below hx0.1).b1
  have e2 : (W.alloc (.cells #[.slice none 0 0, .slice none 0 0, .slice none 0 0, .slice none 0 0] 33)).cell? ⟨bb, 2, none⟩ = some (.slice asv shs.length csv) := (h.below hx0.1).b2
  have hne : W.heap.size ≠ bb := by have := h.ltb; omega
  clear h
  replace C1 := Mr.hid C1
  replace C2 := Mr.hid C2
  replace C3 := Mr.hid C3
  replace C4 := Mr.hid C4
  go_enter Tryz.func26, Tryz.ntmps26
  go_wp2
  replace hx0 := Mr.hid hx0
  go_region_held3 (fun w' => w'.cell? ⟨bb, 0, none⟩ = some (.pointer (some ⟨bm, 0, none⟩)) ∧ w'.cell? ⟨bb, 1, none⟩ = some (.slice acv cls.length ccv) ∧ w'.cell? ⟨bb, 2, none⟩ = some (.slice asv shs.length csv)) (go_keep)
    (first
      | (go_at_call 41; refine (C1.out _ hx0.out).mono ?_; clear C1; rintro e w1 ⟨v1, rfl, hv1, hB1, hx1, f0, f1, f2⟩; obtain ⟨p1, q1, rfl, _⟩ := hv1.form; replace hx1 := Mr.hid hx1; replace hv1 := Mr.hid hv1; replace hB1 := Mr.hid hB1)
      | (go_at_call 42; refine (C2.out _ hx1.out).mono ?_; clear C2; rintro e w2 ⟨v2, rfl, hv2, hB2, hx2, g0, g1, g2⟩; obtain ⟨p2, q2, rfl, _⟩ := hv2.form; replace hx2 := Mr.hid hx2; replace hv2 := Mr.hid hv2; replace hB2 := Mr.hid hB2)
      | (go_at_call 43; refine (C3.out _ hx2.out).mono ?_; clear C3; rintro e w3 ⟨v3, rfl, hv3, hB3, hx3, j0, j1, j2⟩; obtain ⟨p3, q3, rfl, _⟩ := hv3.form; replace hx3 := Mr.hid hx3; replace hv3 := Mr.hid hv3; replace hB3 := Mr.hid hB3)
      | (go_at_call 44; refine (C4.out _ hx3.out).mono ?_; clear C4; rintro e w4 ⟨v4, rfl, hv4, hB4, hx4, i0, i1, i2⟩; obtain ⟨p4, q4, rfl, _⟩ := hv4.form; obtain ⟨kc, kz⟩ := hx4.cells; have kc0 := kc 0 (by decide); have kc1 := kc 1 (by decide); have kc2 := kc 2 (by decide); have kc3 := kc 3 (by decide); clear kc; replace hx4 := Mr.hid hx4; replace hv4 := Mr.hid hv4; replace hB4 := Mr.hid hB4))
  obtain ⟨W5, hW5⟩ : ∃ W5, (((w4.setCell ⟨W.heap.size, 0, none⟩ (.slice p1 cls.length q1)).setCell ⟨W.heap.size, 1, none⟩ (.slice p2 lg.length q2)).setCell ⟨W.heap.size, 2, none⟩ (.slice p3 shs.length q3)).setCell ⟨W.heap.size, 3, none⟩ (.slice p4 ws.length q4) = W5 := ⟨_, rfl⟩
  have hb5 : W5.heap[W.heap.size]? = some (.cells #[.slice p1 cls.length q1, .slice p2 lg.length q2, .slice p3 shs.length q3, .slice p4 ws.length q4] 33 (0, 0)) := by
    rw [← hW5, setBlk (setBlk (setBlk (setBlk hx4.out.2 0 _) 1 _) 2 _) 3 _]
    rfl
  have ho5 : ∀ k, k ≠ W.heap.size → W5.heap[k]? = w4.heap[k]? := fun k hk => by
    rw [← hW5, Below.heap_setCell _ _ _ k hk, Below.heap_setCell _ _ _ k hk, Below.heap_setCell _ _ _ k hk, Below.heap_setCell _ _ _ k hk]
  have hB5 : Below W.heap.size W W5 := by
    rw [← hW5]
    exact (((hx4.out.1.setCell (p := ⟨W.heap.size, 0, none⟩) (Nat.le_refl _) _).setCell (p := ⟨W.heap.size, 1, none⟩) (Nat.le_refl _) _).setCell (p := ⟨W.heap.size, 2, none⟩) (Nat.le_refl _) _).setCell (p := ⟨W.heap.size, 3, none⟩) (Nat.le_refl _) _
  have keep : ∀ {e size m : Nat} {v : Value} {xs : List Value}, e ≠ 33 → Has w4 (fun k => W.heap.size ≤ k) e size v m xs → Has W5 (fun k => W.heap.size ≤ k) e size v m xs := fun {e size m v xs} hne hh =>
    hh.kept (fun k hk => ho5 k (fun e' => not_row hx4.out.2 hh hne.symm (e' ▸ hk))) (fun k hk => (hh.lt k hk).1)
  have r1 := keep (by decide) (((hv1.out.below hB2.out).below hB3.out).below hB4.out)
  have r2 := keep (by decide) ((hv2.out.below hB3.out).below hB4.out)
  have r3 := keep (by decide) (hv3.out.below hB4.out)
  have r4 := keep (by decide) hv4.out
  have d0 : W5.cell? ⟨W.heap.size, 0, none⟩ = some (.slice p1 cls.length q1) := by simp [World.cell?, hb5]
  have d1 : W5.cell? ⟨W.heap.size, 1, none⟩ = some (.slice p2 lg.length q2) := by simp [World.cell?, hb5]
  have d2 : W5.cell? ⟨W.heap.size, 2, none⟩ = some (.slice p3 shs.length q3) := by simp [World.cell?, hb5]
  have d3 : W5.cell? ⟨W.heap.size, 3, none⟩ = some (.slice p4 ws.length q4) := by simp [World.cell?, hb5]
  rw [hW5]
  clear hW5 keep ho5 hb5 kc0 kc1 kc2 kc3 kz i0 i1 i2
  replace r1 := Mr.hid r1
  replace r2 := Mr.hid r2
  replace r3 := Mr.hid r3
  replace r4 := Mr.hid r4
  go_wp2
  refine bodyPost_ret (v := runV (.slice p1 cls.length q1) (.slice p2 lg.length q2) (.slice p3 shs.length q3) (.slice p4 ws.length q4)) (by simp [results, Tryz.f26, go_sem, d0, d1, d2, d3, runV]) rfl ?_
  exact ⟨_, _, _, _, rfl, r1.out, r2.out, r3.out, r4.out, hB5⟩
end
section
variable {W : World} {U S : Nat → Prop} {q : Ph} {vl va : Value} {s : Ss} {X : Nat → Obj → Prop}
set_option maxRecDepth 100000 in
set_option maxHeartbeats 1000000 in
theorem runM_any (hM : Mch W U S q vl va s X) (n2 : s.cls.length ≤ 100000) (n3 : s.lg.length ≤ 100000) (n4 : s.shs.length ≤ 100000) :
    Calls Tryz.prog 14 #[.pointer (some ⟨q.b, 0, none⟩)] W fun e w' => ∃ v1 v2 v3 v4, e = .returned (runV v1 v2 v3 v4) ∧ Has w' (fun k => W.heap.size ≤ k) 61 9 v1 s.cls.length (clc s.cls) ∧ Has w' (fun k => W.heap.size ≤ k) 65 7 v2 s.lg.length (lgc s.lg) ∧ Has w' (fun k => W.heap.size ≤ k) 68 5 v3 s.shs.length (shc s.shs) ∧ Has w' (fun k => W.heap.size ≤ k) 63 1 v4 s.ws.length (wrd s.ws) ∧ Below W.heap.size W w' := by
  have hB0 := (Below.refl W.heap.size W).alloc (Nat.le_refl _) (.cells #[.slice none 0 0, .slice none 0 0, .slice none 0 0, .slice none 0 0] 33)
  have hM1 := hM.below hB0
  have C := made_yes hM1
  have hm := hM1.2
  have D := run_any hm n2 n4 n3
  have m3 := hm.m3
  have hbx : (W.alloc (.cells #[.slice none 0 0, .slice none 0 0, .slice none 0 0, .slice none 0 0] 33)).heap[W.heap.size]? = some (.cells #[.slice none 0 0, .slice none 0 0, .slice none 0 0, .slice none 0 0] 33 (0, 0)) := heap_alloc_new W _
  have hsz : (W.alloc (.cells #[.slice none 0 0, .slice none 0 0, .slice none 0 0, .slice none 0 0] 33)).heap.size = W.heap.size + 1 := by simp
  have cellB := fun (w2 : World) (hB : Below (W.heap.size + 1) (W.alloc (.cells #[.slice none 0 0, .slice none 0 0, .slice none 0 0, .slice none 0 0] 33)) w2) => (show Bx W w2 from ⟨hB0.trans (hB.mono (by omega)), (hB.block _ (by omega)).trans hbx⟩)
  rw [hsz] at D
  replace hM1 := Mr.hid hM1
  replace hm := Mr.hid hm
  replace hM := Mr.hid hM
  clear hbx hsz
  go_enter Tryz.func14, Tryz.ntmps14
  go_wp2_with (first | (go_at_call 21; refine C.mono ?_; clear C; rintro e w' ⟨rfl, hw⟩; obtain rfl := hw.symm) | (go_at_call 26; refine D.mono ?_; clear D; rintro e w2 ⟨v1, v2, v3, v4, rfl, hv1, hv2, hv3, hv4, hB2⟩; have hx2 := cellB w2 hB2; obtain ⟨kc, kz⟩ := hx2.cells; have kc0 := kc 0 (by decide); have kc1 := kc 1 (by decide); have kc2 := kc 2 (by decide); have kc3 := kc 3 (by decide); clear kc; obtain ⟨p1, q1, rfl, _⟩ := hv1.form; obtain ⟨p2, q2, rfl, _⟩ := hv2.form; obtain ⟨p3, q3, rfl, _⟩ := hv3.form; obtain ⟨p4, q4, rfl, _⟩ := hv4.form; replace hx2 := Mr.hid hx2; unfold runV))
  obtain ⟨W5, hW5⟩ : ∃ W5, (((w2.setCell ⟨W.heap.size, 0, none⟩ (.slice p1 s.cls.length q1)).setCell ⟨W.heap.size, 1, none⟩ (.slice p2 s.lg.length q2)).setCell ⟨W.heap.size, 2, none⟩ (.slice p3 s.shs.length q3)).setCell ⟨W.heap.size, 3, none⟩ (.slice p4 s.ws.length q4) = W5 := ⟨_, rfl⟩
  have hb5 : W5.heap[W.heap.size]? = some (.cells #[.slice p1 s.cls.length q1, .slice p2 s.lg.length q2, .slice p3 s.shs.length q3, .slice p4 s.ws.length q4] 33 (0, 0)) := by
    rw [← hW5, setBlk (setBlk (setBlk (setBlk hx2.out.2 0 _) 1 _) 2 _) 3 _]
    rfl
  have ho5 : ∀ k, k ≠ W.heap.size → W5.heap[k]? = w2.heap[k]? := fun k hk => by
    rw [← hW5, Below.heap_setCell _ _ _ k hk, Below.heap_setCell _ _ _ k hk, Below.heap_setCell _ _ _ k hk, Below.heap_setCell _ _ _ k hk]
  have hB5 : Below W.heap.size W W5 := by
    rw [← hW5]
    exact (((hx2.out.1.setCell (p := ⟨W.heap.size, 0, none⟩) (Nat.le_refl _) _).setCell (p := ⟨W.heap.size, 1, none⟩) (Nat.le_refl _) _).setCell (p := ⟨W.heap.size, 2, none⟩) (Nat.le_refl _) _).setCell (p := ⟨W.heap.size, 3, none⟩) (Nat.le_refl _) _
  have keep : ∀ {e size m : Nat} {v : Value} {xs : List Value}, Has w2 (fun k => W.heap.size + 1 ≤ k) e size v m xs → Has W5 (fun k => W.heap.size ≤ k) e size v m xs := fun {e size m v xs} hh =>
    hh.kept (fun k hk => ho5 k (fun e' => by have := (hh.lt k hk).1; omega)) (fun k hk => by have := (hh.lt k hk).1; omega)
  have d0 : W5.cell? ⟨W.heap.size, 0, none⟩ = some (.slice p1 s.cls.length q1) := by simp [World.cell?, hb5]
  have d1 : W5.cell? ⟨W.heap.size, 1, none⟩ = some (.slice p2 s.lg.length q2) := by simp [World.cell?, hb5]
  have d2 : W5.cell? ⟨W.heap.size, 2, none⟩ = some (.slice p3 s.shs.length q3) := by simp [World.cell?, hb5]
  have d3 : W5.cell? ⟨W.heap.size, 3, none⟩ = some (.slice p4 s.ws.length q4) := by simp [World.cell?, hb5]
  rw [hW5]
  refine bodyPost_ret (v := runV (.slice p1 s.cls.length q1) (.slice p2 s.lg.length q2) (.slice p3 s.shs.length q3) (.slice p4 s.ws.length q4)) (by simp [results, Tryz.f14, go_sem, d0, d1, d2, d3, runV]) rfl ?_
  exact ⟨_, _, _, _, rfl, keep hv1, keep hv2, keep hv3, keep hv4, hB5⟩
end
end Go.Proofs.YtnapnhmmopajfaaGreat.Ma
/-
  A MACHINE OF ANY TASKS: machine.New, Machine.Run, Machine.Busy by their contracts.
-/
namespace Go.Proofs.YtnapnhmmopajfaaGreat.Gm
open Go.RowKit Go.Shelf Mr Me Ma
set_option linter.unusedVariables false
section
variable {τ γ : Type} {Y : Sys τ γ} {L : Lay τ γ} {Inv : Pg τ γ → Prop}
def Pg.new (nth : Nat) (ws : List Int) (g : γ) : Pg τ γ := ⟨List.replicate nth ⟨none, false, -1, 0, 0⟩, g, 0, [], ws, []⟩
theorem thsG_none (nth : Nat) : thsG (List.replicate nth (⟨none, false, -1, 0, 0⟩ : Pt τ)) (fun _ => .nilIface) = List.replicate nth idleT := by
  apply List.ext_getElem?
  intro j
  rw [thsG_get]
  simp only [List.getElem?_replicate]
  split <;> rfl
theorem tkF_none (nth : Nat) : tkF (List.replicate nth (⟨none, false, -1, 0, 0⟩ : Pt τ)) = fun _ => none := by
  funext i
  unfold tkF
  rw [List.getElem?_replicate]
  split <;> rfl
theorem bd_new (nth : Nat) (ws : List Int) (g : γ) : Bd (Pg.new (τ := τ) nth ws g) := by
  refine ⟨Nat.zero_le _, Nat.le_refl _, Nat.le_refl _, fun i t ht hs => ?_⟩
  have ht' : (List.replicate nth (⟨none, false, -1, 0, 0⟩ : Pt τ))[i]? = some t := ht
  rw [List.getElem?_replicate] at ht'
  split at ht'
  · cases ht'; cases hs
  · cases ht'
set_option maxRecDepth 100000 in
set_option maxHeartbeats 1000000 in
theorem newM_g (w : World) (nth : Nat) (h1 : 1 ≤ nth) (h2 : nth ≤ 16) (a : Option Addr) (n cap : Nat) (ws : List Int) (hs : Src w a n cap ws) (hn : n ≤ 8192) {T K : Nat → Prop} {km : Nat} (hK : L.ka w K km) (hKl : ∀ k, K k → k < w.heap.size) (hTl : ∀ k, T k → k < w.heap.size) (hKT : ∀ k, K k → ¬ T k)
    (g : γ) (X : Nat → Obj → Prop) (hX : ∀ k o, X k o → w.heap[k]? = some o ∧ T k) (ha : L.at_ (fun _ => none) g (fun _ => .nilIface) X) :
    Calls Tryz.prog 17 #[.int .i64 (nth : Int), .slice a n cap, .map (some km)] w fun e w' => ∃ q U, e = .returned (.tuple #[.pointer (some ⟨q.b, 0, none⟩), .int .i64 0]) ∧ RG L w' U K q km (Pg.new nth ws g) ∧ (∀ k, U k → T k ∨ w.heap.size ≤ k) ∧ Below w.heap.size w w' := by
  have N := new_any _ _ _ _ _ hs hn
  have d1 : decide ((nth : Int) < 1) = false := by simp; omega
  have d2 : decide (16 < (nth : Int)) = false := by simp; omega
  have RP := fun (w1 : World) => Ma.repeat_any (w1.alloc (.cells #[.nilIface, .bool false, .int .i64 (-1), .int .i64 0, .int .i64 0] 87)) w1.heap.size nth h1 h2 (heap_alloc_new w1 _)
  simp only [World.size_alloc] at RP
  replace hs := Mr.hid hs
  replace hK := Mr.hid hK
  replace ha := Mr.hid ha
  replace hX := Mr.hid hX
  go_enter Tryz.func17, Tryz.ntmps17
  go_wp2_with (first | (go_at_call 27; refine N.mono ?_; clear N; rintro e w1 ⟨bm, vw, rfl, hM, hB1⟩; have RP1 := RP w1; clear RP) | (go_at_call 28; refine RP1.mono ?_; clear RP1; rintro e w3 ⟨rfl, hT, hB3⟩))
  go_ret2
  have z1 := hB1.size
  have z3 := hB3.size
  obtain ⟨W5, hW5⟩ : ∃ W5, (w3.alloc (.cells #[.pointer (some ⟨bm, 0, none⟩), .slice none 0 0, .slice none 0 0] 93)).alloc (.cells #[.map (some km), .slice (some ⟨w1.heap.size + 1, 0, none⟩) nth nth, .int .i64 0, .pointer (some ⟨w3.heap.size, 0, none⟩)] 81) = W5 := ⟨_, rfl⟩
  have s5 : W5.heap.size = w3.heap.size + 1 + 1 := by rw [← hW5]; simp
  have k5 : ∀ k, k < w3.heap.size → W5.heap[k]? = w3.heap[k]? := fun k hk => by rw [← hW5]; exact (Below.heap_alloc _ _ _ (by simp; omega)).trans (Below.heap_alloc _ _ _ hk)
  have kb : W5.heap[w3.heap.size]? = some (.cells #[.pointer (some ⟨bm, 0, none⟩), .slice none 0 0, .slice none 0 0] 93 (0, 0)) := by rw [← hW5]; exact (Below.heap_alloc _ _ _ (by simp)).trans (heap_alloc_new w3 _)
  have km5 : W5.heap[w3.heap.size + 1]? = some (.cells #[.map (some km), .slice (some ⟨w1.heap.size + 1, 0, none⟩) nth nth, .int .i64 0, .pointer (some ⟨w3.heap.size, 0, none⟩)] 81 (0, 0)) := by
    rw [← hW5]
    have := heap_alloc_new (w3.alloc (.cells #[.pointer (some ⟨bm, 0, none⟩), .slice none 0 0, .slice none 0 0] 93)) (.cells #[.map (some km), .slice (some ⟨w1.heap.size + 1, 0, none⟩) nth nth, .int .i64 0, .pointer (some ⟨w3.heap.size, 0, none⟩)] 81)
    rw [World.size_alloc] at this
    exact this
  have B5 : Below w.heap.size w W5 := by
    rw [← hW5]
    simp only [World.size_alloc] at z3
    have b2 : Below w.heap.size w (w1.alloc (.cells #[.nilIface, .bool false, .int .i64 (-1), .int .i64 0, .int .i64 0] 87)) := hB1.alloc z1 _
    exact ((b2.trans (hB3.mono (by omega))).alloc (by omega) _).alloc (by simp; omega) _
  simp only [World.size_alloc] at z3
  have m5 : ∀ k, k < w1.heap.size → W5.heap[k]? = w1.heap[k]? := fun k hk => (k5 k (by omega)).trans ((hB3.block k (by omega)).trans (Below.heap_alloc _ _ _ hk))
  rw [hW5]
  have low : ∀ k, T k → k < w.heap.size := hTl
  have u1 : (T (w3.heap.size + 1) ∨ (w.heap.size ≤ w3.heap.size + 1 ∧ w3.heap.size + 1 < W5.heap.size)) ∧ ¬ (w.heap.size ≤ w3.heap.size + 1 ∧ w3.heap.size + 1 < w1.heap.size) := ⟨.inr (by omega), by omega⟩
  have u2 : (T w3.heap.size ∨ (w.heap.size ≤ w3.heap.size ∧ w3.heap.size < W5.heap.size)) ∧ ¬ (w.heap.size ≤ w3.heap.size ∧ w3.heap.size < w1.heap.size) := ⟨.inr (by omega), by omega⟩
  refine ⟨⟨w3.heap.size + 1, w3.heap.size, bm, 0, 0, w1.heap.size + 1, nth, nth, .map (some km), .slice none 0 0, .slice none 0 0, vw⟩, (fun k => T k ∨ (w.heap.size ≤ k ∧ k < W5.heap.size)), rfl, ⟨⟨(fun k => w.heap.size ≤ k ∧ k < w1.heap.size), .slice none 0 0, .slice none 0 0, .slice none 0 0, 0, [], (fun _ => .nilIface), X, ⟨?_, ?_⟩, ?_, Nat.le_refl _⟩, L.kept hK.out (fun k hk => B5.block k (hKl k hk)), ?_, rfl⟩, fun k hk => hk.imp id (fun h => h.1), B5⟩
  · intro k o hk
    obtain ⟨ho, hkT⟩ := hX.out k o hk
    have hkl := low k hkT
    refine ⟨(B5.block k hkl).trans ho, .inl hkT, fun h => by omega, ?_, ?_, ?_, ?_, ?_⟩
    · show k ≠ w3.heap.size + 1; omega
    · show k ≠ w3.heap.size; omega
    · show k ≠ w1.heap.size + 1; omega
    · simp [Value.ownBlock]
    · simp [Value.ownBlock]
  · refine ⟨km5, kb, (hM.narrow.kept (fun k _ hk => m5 k hk)), ?_, Has.nil _ _ _ _, Has.nil _ _ _ _, u1, u2, fun k hk => .inr ⟨hk.1, by have h2 : k < w1.heap.size := hk.2; omega⟩, fun k hk => ?_⟩
    · have e : thsG (Pg.new (τ := τ) nth ws g).pts (fun _ => .nilIface) = List.replicate nth idleT := thsG_none nth
      simp only [e, List.length_replicate]
      refine hT.kept (fun k hk => k5 k (hT.lt k hk).2) (fun k hk => ?_)
      have h' := hT.lt k hk
      exact ⟨.inr ⟨by omega, by omega⟩, fun h => by omega⟩
    · rcases hk with hk | hk
      · have := low k hk; have := B5.size; omega
      · exact hk.2
  · show L.at_ (tkF (List.replicate nth (⟨none, false, -1, 0, 0⟩ : Pt τ))) g _ X
    rw [tkF_none]; exact ha.out
  · intro k hk
    have := hKl k hk
    refine ⟨fun h => ?_, by have := B5.size; omega⟩
    rcases h with h | h
    · exact hKT k hk h
    · omega
variable {W : World} {U K : Nat → Prop} {q : Ph} {km : Nat} {P : Pg τ γ}
theorem run_g (hR : RG L W U K q km P) (hb : Bd P) :
    Calls Tryz.prog 14 #[.pointer (some ⟨q.b, 0, none⟩)] W fun e w' => ∃ v1 v2 v3 v4, e = .returned (runV v1 v2 v3 v4) ∧ Has w' (fun k => W.heap.size ≤ k) 61 9 v1 P.cls.length (clc P.cls) ∧ Has w' (fun k => W.heap.size ≤ k) 65 7 v2 P.lg.length (lgc P.lg) ∧ Has w' (fun k => W.heap.size ≤ k) 68 5 v3 0 [] ∧ Has w' (fun k => W.heap.size ≤ k) 63 1 v4 P.ws.length (wrd P.ws) ∧ Below W.heap.size W w' := by
  obtain ⟨S, vl, va, vc, mv, ah, tv, X, hM, ha, hah⟩ := hR.ex
  have := hb.n
  have := hb.cls
  have := hb.lg
  exact runM_any hM (by show P.cls.length ≤ 100000; omega) (by show P.lg.length ≤ 100000; omega) (by show ([] : List Sh).length ≤ 100000; simp)
theorem nt_g (hR : RG L W U K q km P) : q.nt = P.pts.length := by
  obtain ⟨S, vl, va, vc, mv, ah, tv, X, hM, ha, hah⟩ := hR.ex
  have := hM.nt
  have h2 : (thsG P.pts tv).length = q.nt := this
  rw [thsG_len] at h2; exact h2.symm
end
end Go.Proofs.YtnapnhmmopajfaaGreat.Gm
