/-
  A STEP of a thread: book.end, Machine.step, whatever the task's step does.
-/
import Derived.Test.YtpckcfdjgpdooaaMacWork
namespace Go.Proofs.Ytpckcfdjgpdooaa.Ma
open Go.RowKit Mr Me
section
variable {W : World} {U S : Nat → Prop} {b bb bm : Nat} {vk vt vc vs vw vl va : Value} {ths : List Th} {n : Int} {cls : List Cl} {shs : List Sh} {ws : List Int} {mv : Int} {lg : List Acc} {ah : List Int}
theorem Mac.endCl (h : Mac W U S b bb bm vk vt vc vs vw vl va ths n cls shs ws mv lg ah) {gc cc : Nat} (hv : vc = .slice (some ⟨gc, 0, none⟩) cls.length cc) (c : Nat) (cl : Cl) (hc : cls[c]? = some cl) (fin ak av : Int) :
    Mac (((W.setCell ⟨gc, c * 9 + 5, none⟩ (.int .i64 fin)).setCell ⟨gc, c * 9 + 7, none⟩ (.int .i64 ak)).setCell ⟨gc, c * 9 + 8, none⟩ (.int .i64 av)) U S b bb bm vk vt vc vs vw vl va ths n (cls.set c { cl with fin := fin, ak := ak, av := av }) shs ws mv lg ah := by
  have hl := (List.getElem?_eq_some_iff.1 hc).1
  have q1 := h.putCl hv c 5 cl { cl with fin := fin } (.int .i64 fin) hc (by decide) rfl
  have q2 := q1.putCl (by rw [List.length_set]; exact hv) c 7 { cl with fin := fin } { cl with fin := fin, ak := ak } (.int .i64 ak) (by simp [hl]) (by decide) rfl
  have q3 := q2.putCl (by rw [List.length_set, List.length_set]; exact hv) c 8 { cl with fin := fin, ak := ak } { cl with fin := fin, ak := ak, av := av } (.int .i64 av) (by simp [hl]) (by decide) rfl
  simp only [List.set_set] at q3
  exact q3
theorem Mac.wipeTh (h : Mac W U S b bb bm vk vt vc vs vw vl va ths n cls shs ws mv lg ah) {gt nt ct : Nat} (hv : vt = .slice (some ⟨gt, 0, none⟩) nt ct) (i : Nat) (t t' : Th) (ht : ths[i]? = some t) :
    Mac (((((W.setCell ⟨gt, i * 5, none⟩ t'.tv).setCell ⟨gt, i * 5 + 1, none⟩ (.bool t'.fr)).setCell ⟨gt, i * 5 + 2, none⟩ (.int .i64 t'.call)).setCell ⟨gt, i * 5 + 3, none⟩ (.int .i64 t'.ak)).setCell ⟨gt, i * 5 + 4, none⟩ (.int .i64 t'.av)) U S b bb bm vk vt vc vs vw vl va (ths.set i t') n cls shs ws mv lg ah := by
  have hl := (List.getElem?_eq_some_iff.1 ht).1
  have q0 := h.putTh hv i 0 t { t with tv := t'.tv } t'.tv ht (by decide) rfl
  have q1 := q0.putTh hv i 1 { t with tv := t'.tv } { t with tv := t'.tv, fr := t'.fr } (.bool t'.fr) (by simp [hl]) (by decide) rfl
  have q2 := q1.putTh hv i 2 { t with tv := t'.tv, fr := t'.fr } { t with tv := t'.tv, fr := t'.fr, call := t'.call } (.int .i64 t'.call) (by simp [hl]) (by decide) rfl
  have q3 := q2.putTh hv i 3 { t with tv := t'.tv, fr := t'.fr, call := t'.call } { t with tv := t'.tv, fr := t'.fr, call := t'.call, ak := t'.ak } (.int .i64 t'.ak) (by simp [hl]) (by decide) rfl
  have q4 := q3.putTh hv i 4 { t with tv := t'.tv, fr := t'.fr, call := t'.call, ak := t'.ak } t' (.int .i64 t'.av) (by simp [hl]) (by decide) rfl
  simp only [List.set_set, Nat.add_zero] at q4
  exact q4
set_option maxRecDepth 100000 in
set_option maxHeartbeats 1000000 in
theorem end_told (h : Mac W U S b bb bm vk vt vc vs vw vl va ths n cls shs ws mv lg ah) (c : Nat) (cl : Cl) (hc : cls[c]? = some cl) (now ak av : Int) (hak : (ak == 0) = false) :
    Calls Try.prog 41 #[.pointer (some ⟨bb, 0, none⟩), .int .i64 (c : Int), .int .i64 now, .agg #[.int .i64 ak, .int .i64 av]] W fun e w' => e = .returned (.tuple #[]) ∧ Mac w' U S b bb bm vk vt vc vs vw vl va ths n (cls.set c { cl with fin := now, ak := ak, av := av }) shs ws mv lg ah ∧ Fr W w' (fun k => vc.ownBlock = some k) := by
  have hl := (List.getElem?_eq_some_iff.1 hc).1
  obtain ⟨gc, cc, hv, _⟩ := h.cal.there (by omega)
  have hg : vc.ownBlock = some gc := by rw [hv]; rfl
  have hB := fun o => (Below.refl W.heap.size W).alloc (Nat.le_refl _) o
  have b1 := fun o => (h.below (hB o)).b1
  have k5 := fun o => (h.below (hB o)).atCl hv c 5 cl _ hc rfl
  have kz := fun o j => (h.below (hB o)).cal.frozen hg j
  have q5 := h.putCl hv c 5 cl { cl with fin := now } (.int .i64 now) hc (by decide) rfl
  have hcl : (cls.set c { cl with fin := now })[c]? = some { cl with fin := now } := by simp [hl]
  have n1 : gc ≠ bb := fun e => not_row h.bk h.cal (by decide) (e ▸ hg)
  have n2 : gc ≠ W.heap.size := by have := (h.cal.lt gc hg).2; omega
  have hv5 : vc = .slice (some ⟨gc, 0, none⟩) (cls.set c { cl with fin := now }).length cc := by rw [List.length_set]; exact hv
  have f5 : Fr W (W.setCell ⟨gc, c * 9 + 5, none⟩ (.int .i64 now)) (fun k => vc.ownBlock = some k) := (Fr.refl W (fun k => vc.ownBlock = some k)).setCell _ _ (.inl hg)
  have hs5 : (W.setCell ⟨gc, c * 9 + 5, none⟩ (.int .i64 now)).heap.size = W.heap.size := by simp
  have hfin : ((cls.set c { cl with fin := now }).set c { cl with fin := now, ak := ak }).set c { cl with fin := now, ak := ak, av := av } = cls.set c { cl with fin := now, ak := ak, av := av } := by simp only [List.set_set]
  replace hfin := Mr.hid hfin
  have b1' : ∀ o, (W.alloc o).cell? ⟨bb, 1, none⟩ = some (.slice (some ⟨gc, 0, none⟩) cls.length cc) := fun o => by rw [← hv]; exact b1 o
  clear b1
  have hget : ∀ x y : Cl, ((cls.set c x).set c y)[c]? = some y := fun x y => by simp [hl]
  replace hget := Mr.hid hget
  generalize hN : cls.length = N at *
  replace hN := Mr.hid hN
  replace hv := Mr.hid hv
  replace hg := Mr.hid hg
  replace h := Mr.hid h
  replace q5 := Mr.hid q5
  replace f5 := Mr.hid f5
  replace hv5 := Mr.hid hv5
  replace hcl := Mr.hid hcl
  go_enter Try.func41, Try.ntmps41
  go_wp2
  have m2 := q5.out.below ((Below.refl _ (W.setCell ⟨gc, c * 9 + 5, none⟩ (.int .i64 now))).alloc (Nat.le_refl _) (.cells #[.int .i64 ak, .int .i64 av] 51))
  have f2 := f5.out.alloc (.cells #[.int .i64 ak, .int .i64 av] 51)
  have x0 : ((W.setCell ⟨gc, c * 9 + 5, none⟩ (.int .i64 now)).alloc (.cells #[.int .i64 ak, .int .i64 av] 51)).cell? ⟨W.heap.size, 0, none⟩ = some (.int .i64 ak) := newsAt (W.setCell ⟨gc, c * 9 + 5, none⟩ (.int .i64 now)) _ #[.int .i64 ak, .int .i64 av] 51 _ hs5.symm rfl 0 _ rfl
  have x1 : ((W.setCell ⟨gc, c * 9 + 5, none⟩ (.int .i64 now)).alloc (.cells #[.int .i64 ak, .int .i64 av] 51)).cell? ⟨W.heap.size, 1, none⟩ = some (.int .i64 av) := newsAt (W.setCell ⟨gc, c * 9 + 5, none⟩ (.int .i64 now)) _ #[.int .i64 ak, .int .i64 av] 51 _ hs5.symm rfl 1 _ rfl
  generalize (W.setCell ⟨gc, c * 9 + 5, none⟩ (.int .i64 now)).alloc (.cells #[.int .i64 ak, .int .i64 av] 51) = W2 at *
  have g1 := m2.b1
  rw [hv.out] at g1
  have g7 := m2.atCl hv5.out c 7 _ _ hcl.out rfl
  have g8 := m2.atCl hv5.out c 8 _ _ hcl.out rfl
  have gz := fun j => m2.cal.frozen hg.out j
  have p7 := m2.putCl hv5.out c 7 _ { cl with fin := now, ak := ak } (.int .i64 ak) hcl.out (by decide) rfl
  have p8 := p7.putCl (by rw [List.length_set]; exact hv5.out) c 8 { cl with fin := now, ak := ak } { cl with fin := now, ak := ak, av := av } (.int .i64 av) (hget.out _ _) (by decide) rfl
  rw [hfin.out] at p8
  have f8 := (f2.setCell ⟨gc, c * 9 + 7, none⟩ (.int .i64 ak) (.inl hg.out)).setCell ⟨gc, c * 9 + 8, none⟩ (.int .i64 av) (.inl hg.out)
  replace p8 := Mr.hid p8
  replace f8 := Mr.hid f8
  clear p7 m2 f2 k5 kz b1' q5 f5 hB
  go_region_held3 (fun w' => w'.cell? ⟨bb, 1, none⟩ = some (.slice (some ⟨gc, 0, none⟩) N cc) ∧ w'.cell? ⟨W.heap.size, 0, none⟩ = some (.int .i64 ak) ∧ w'.cell? ⟨W.heap.size, 1, none⟩ = some (.int .i64 av)) (go_keep) (fail)
  go_wp2
  go_end0
  exact ⟨rfl, p8.out.below (Below.refl _ _).drew, f8.out.drew⟩
/-- What is noted of an answer: who told none is done. -/
def endA (ak av : Int) : Int × Int := if ak = 0 then (1, 0) else (ak, av)
set_option maxRecDepth 100000 in
set_option maxHeartbeats 1000000 in
theorem end_done (h : Mac W U S b bb bm vk vt vc vs vw vl va ths n cls shs ws mv lg ah) (c : Nat) (cl : Cl) (hc : cls[c]? = some cl) (now av0 : Int) :
    Calls Try.prog 41 #[.pointer (some ⟨bb, 0, none⟩), .int .i64 (c : Int), .int .i64 now, .agg #[.int .i64 0, .int .i64 av0]] W fun e w' => e = .returned (.tuple #[]) ∧ Mac w' U S b bb bm vk vt vc vs vw vl va ths n (cls.set c { cl with fin := now, ak := 1, av := 0 }) shs ws mv lg ah ∧ Fr W w' (fun k => vc.ownBlock = some k) := by
  have hl := (List.getElem?_eq_some_iff.1 hc).1
  obtain ⟨gc, cc, hv, _⟩ := h.cal.there (by omega)
  have hg : vc.ownBlock = some gc := by rw [hv]; rfl
  have hB := fun o => (Below.refl W.heap.size W).alloc (Nat.le_refl _) o
  have b1 := fun o => (h.below (hB o)).b1
  have k5 := fun o => (h.below (hB o)).atCl hv c 5 cl _ hc rfl
  have kz := fun o j => (h.below (hB o)).cal.frozen hg j
  have q5 := h.putCl hv c 5 cl { cl with fin := now } (.int .i64 now) hc (by decide) rfl
  have hcl : (cls.set c { cl with fin := now })[c]? = some { cl with fin := now } := by simp [hl]
  have n1 : gc ≠ bb := fun e => not_row h.bk h.cal (by decide) (e ▸ hg)
  have n2 : gc ≠ W.heap.size := by have := (h.cal.lt gc hg).2; omega
  have hv5 : vc = .slice (some ⟨gc, 0, none⟩) (cls.set c { cl with fin := now }).length cc := by rw [List.length_set]; exact hv
  have f5 : Fr W (W.setCell ⟨gc, c * 9 + 5, none⟩ (.int .i64 now)) (fun k => vc.ownBlock = some k) := (Fr.refl W (fun k => vc.ownBlock = some k)).setCell _ _ (.inl hg)
  have hs5 : (W.setCell ⟨gc, c * 9 + 5, none⟩ (.int .i64 now)).heap.size = W.heap.size := by simp
  have hfin : ((cls.set c { cl with fin := now }).set c { cl with fin := now, ak := 1 }).set c { cl with fin := now, ak := 1, av := 0 } = cls.set c { cl with fin := now, ak := 1, av := 0 } := by simp only [List.set_set]
  replace hfin := Mr.hid hfin
  have b1' : ∀ o, (W.alloc o).cell? ⟨bb, 1, none⟩ = some (.slice (some ⟨gc, 0, none⟩) cls.length cc) := fun o => by rw [← hv]; exact b1 o
  clear b1
  have hget : ∀ x y : Cl, ((cls.set c x).set c y)[c]? = some y := fun x y => by simp [hl]
  replace hget := Mr.hid hget
  generalize hN : cls.length = N at *
  replace hN := Mr.hid hN
  replace hv := Mr.hid hv
  replace hg := Mr.hid hg
  replace h := Mr.hid h
  replace q5 := Mr.hid q5
  replace f5 := Mr.hid f5
  replace hv5 := Mr.hid hv5
  replace hcl := Mr.hid hcl
  go_enter Try.func41, Try.ntmps41
  go_wp2
  have m2 := q5.out.below ((Below.refl _ (W.setCell ⟨gc, c * 9 + 5, none⟩ (.int .i64 now))).alloc (Nat.le_refl _) (.cells #[.int .i64 1, .int .i64 0] 51))
  have f2 := f5.out.alloc (.cells #[.int .i64 1, .int .i64 0] 51)
  have x0 : ((W.setCell ⟨gc, c * 9 + 5, none⟩ (.int .i64 now)).alloc (.cells #[.int .i64 1, .int .i64 0] 51)).cell? ⟨W.heap.size, 0, none⟩ = some (.int .i64 1) := newsAt (W.setCell ⟨gc, c * 9 + 5, none⟩ (.int .i64 now)) _ #[.int .i64 1, .int .i64 0] 51 _ hs5.symm rfl 0 _ rfl
  have x1 : ((W.setCell ⟨gc, c * 9 + 5, none⟩ (.int .i64 now)).alloc (.cells #[.int .i64 1, .int .i64 0] 51)).cell? ⟨W.heap.size, 1, none⟩ = some (.int .i64 0) := newsAt (W.setCell ⟨gc, c * 9 + 5, none⟩ (.int .i64 now)) _ #[.int .i64 1, .int .i64 0] 51 _ hs5.symm rfl 1 _ rfl
  generalize (W.setCell ⟨gc, c * 9 + 5, none⟩ (.int .i64 now)).alloc (.cells #[.int .i64 1, .int .i64 0] 51) = W2 at *
  have g1 := m2.b1
  rw [hv.out] at g1
  have g7 := m2.atCl hv5.out c 7 _ _ hcl.out rfl
  have g8 := m2.atCl hv5.out c 8 _ _ hcl.out rfl
  have gz := fun j => m2.cal.frozen hg.out j
  have p7 := m2.putCl hv5.out c 7 _ { cl with fin := now, ak := 1 } (.int .i64 1) hcl.out (by decide) rfl
  have p8 := p7.putCl (by rw [List.length_set]; exact hv5.out) c 8 { cl with fin := now, ak := 1 } { cl with fin := now, ak := 1, av := 0 } (.int .i64 0) (hget.out _ _) (by decide) rfl
  rw [hfin.out] at p8
  have f8 := (f2.setCell ⟨gc, c * 9 + 7, none⟩ (.int .i64 1) (.inl hg.out)).setCell ⟨gc, c * 9 + 8, none⟩ (.int .i64 0) (.inl hg.out)
  replace p8 := Mr.hid p8
  replace f8 := Mr.hid f8
  clear p7 m2 f2 k5 kz b1' q5 f5 hB
  go_region_held3 (fun w' => w'.cell? ⟨bb, 1, none⟩ = some (.slice (some ⟨gc, 0, none⟩) N cc) ∧ w'.cell? ⟨W.heap.size, 0, none⟩ = some (.int .i64 1) ∧ w'.cell? ⟨W.heap.size, 1, none⟩ = some (.int .i64 0)) (go_keep) (fail)
  go_wp2
  go_end0
  exact ⟨rfl, p8.out.below (Below.refl _ _).drew, f8.out.drew⟩
theorem end_any (h : Mac W U S b bb bm vk vt vc vs vw vl va ths n cls shs ws mv lg ah) (c : Nat) (cl : Cl) (hc : cls[c]? = some cl) (now ak av : Int) :
    Calls Try.prog 41 #[.pointer (some ⟨bb, 0, none⟩), .int .i64 (c : Int), .int .i64 now, .agg #[.int .i64 ak, .int .i64 av]] W fun e w' => e = .returned (.tuple #[]) ∧ Mac w' U S b bb bm vk vt vc vs vw vl va ths n (cls.set c { cl with fin := now, ak := (endA ak av).1, av := (endA ak av).2 }) shs ws mv lg ah ∧ Fr W w' (fun k => vc.ownBlock = some k) := by
  by_cases hak : ak = 0
  · subst hak
    exact end_done h c cl hc now av
  · have e : endA ak av = (ak, av) := by simp [endA, hak]
    rw [e]
    exact end_told h c cl hc now ak av (by simpa using hak)
end
end Go.Proofs.Ytpckcfdjgpdooaa.Ma
