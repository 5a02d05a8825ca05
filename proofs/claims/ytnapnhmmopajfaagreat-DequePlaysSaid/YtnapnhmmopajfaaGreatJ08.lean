import Derived.Test.YtnapnhmmopajfaaGreatJ07
/-
  A STEP of a thread: book.end, Machine.step, whatever the task's step does.
-/
namespace Go.Proofs.YtnapnhmmopajfaaGreat.Ma
open Go.RowKit Mr Me
section
variable {W : World} {U S : Nat → Prop} {b bb bm : Nat} {vk vt vc vs vw vl va : Value} {ths : List Th} {n : Int} {cls : List Cl} {shs : List Sh} {ws : List Int} {mv : Int} {lg : List Acc} {ah : List Int}
theorem Mac.endCl (h : Mac W U S b bb bm vk vt vc vs vw vl va ths n cls shs ws mv lg ah) {gc cc : Nat} (hv : vc = .slice (some ⟨gc, 0, none⟩) cls.length cc) (c : Nat) (cl : Cl) (hc : cls[c]? = some cl) (fin ak av : Int) :
    Mac (((W.setCell ⟨gc, c * 9 + 5, none⟩ (.int .i64 fin)).setCell ⟨gc, c * 9 + 7, none⟩ (.int .i64 ak)).setCell ⟨gc, c * 9 + 8, none⟩ (.int .i64 av)) U S b bb bm vk vt vc vs vw vl va ths n (cls.set c { cl with fin := fin, ak := ak, av := av }) shs ws mv lg ah := by
  have hl := (List.getElem?_eq_some_iff.1 hc).1
  have q1 := h.putCl hv c 5 cl { cl with fin := fin } (.int .i64 fin) hc (by decide) rfl
  have q2 := q1.putCl (by rw [List.length_set]; exact hv) c 7 { cl with fin := fin } { cl with fin := fin, ak := ak } (.int .i64 ak) (by simp [hl]) (by decide) rfl
  have q3 := q2.putCl (by rw [List.length_set, List.length_set]; exact hv) c 8 { cl with fin := fin, ak := ak } { cl with fin := fin, ak := ak, av := av } (.int .i64 av) (by simp [hl]) (by decide) rfl
  simp only [List.set_set] at q3
  exact q3
theorem Mac.wipeTh (h : Mac W U S b bb bm vk vt vc vs vw vl va ths n cls shs ws mv lg ah) {gt nt ct : Nat} (hv : vt = .slice (some ⟨gt, 0, none⟩) nt ct) (i : Nat) (t t' : Th) (ht : ths[i]? = some t) :
    Mac (((((W.setCell ⟨gt, i * 5, none⟩ t'.tv).setCell ⟨gt, i * 5 + 1, none⟩ (.bool t'.fr)).setCell ⟨gt, i * 5 + 2, none⟩ (.int .i64 t'.call)).setCell ⟨gt, i * 5 + 3, none⟩ (.int .i64 t'.ak)).setCell ⟨gt, i * 5 + 4, none⟩ (.int .i64 t'.av)) U S b bb bm vk vt vc vs vw vl va (ths.set i t') n cls shs ws mv lg ah := by
  have hl := (List.getElem?_eq_some_iff.1 ht).1
  have q0 := h.putTh hv i 0 t { t with tv := t'.tv } t'.tv ht (by decide) rfl
  have q1 := q0.putTh hv i 1 { t with tv := t'.tv } { t with tv := t'.tv, fr := t'.fr } (.bool t'.fr) (by simp [hl]) (by decide) rfl
  have q2 := q1.putTh hv i 2 { t with tv := t'.tv, fr := t'.fr } { t with tv := t'.tv, fr := t'.fr, call := t'.call } (.int .i64 t'.call) (by simp [hl]) (by decide) rfl
  have q3 := q2.putTh hv i 3 { t with tv := t'.tv, fr := t'.fr, call := t'.call } { t with tv := t'.tv, fr := t'.fr, call := t'.call, ak := t'.ak } (.int .i64 t'.ak) (by simp [hl]) (by decide) rfl
  have q4 := q3.putTh hv i 4 { t with tv := t'.tv, fr := t'.fr, call := t'.call, ak := t'.ak } t' (.int .i64 t'.av) (by simp [hl]) (by decide) rfl
  simp only [List.set_set, Nat.add_zero] at q4
  exact q4
set_option maxRecDepth 100000 in
set_option maxHeartbeats 1000000 in
theorem end_told (h : Mac W U S b bb bm vk vt vc vs vw vl va ths n cls shs ws mv lg ah) (c : Nat) (cl : Cl) (hc : cls[c]? = some cl) (now ak av : Int) (hak : (ak == 0) = false) :
    Calls Tryz.prog 37 #[.pointer (some ⟨bb, 0, none⟩), .int .i64 (c : Int), .int .i64 now, .agg #[.int .i64 ak, .int .i64 av]] W fun e w' => e = .returned (.tuple #[]) ∧ Mac w' U S b bb bm vk vt vc vs vw vl va ths n (cls.set c { cl with fin := now, ak := ak, av := av }) shs ws mv lg ah ∧ Fr W w' (fun k => vc.ownBlock = some k) := by
  have hl := (List.getElem?_eq_some_iff.1 hc).1
  obtain ⟨gc, cc, hv, _⟩ := h.cal.there (by omega)
  have hg : vc.ownBlock = some gc := by rw [hv]; rfl
  have hB := fun o => (Below.refl W.heap.size W).alloc (Nat.le_refl _) o
  have b1 := fun o => (h.below (hB o)).b1
  have k5 := fun o => (h.below (hB o)).atCl hv c 5 cl _ hc rfl
  have kz := fun o j => (h.below (hB o)).cal.frozen hg j
  have q5 := h.putCl hv c 5 cl { cl with fin := now } (.int .i64 now) hc (by decide) rfl
  have hcl : (cls.set c { cl with fin := now })[c]? = some { cl with fin := now } := by simp [hl]
  have n1 : gc ≠ bb := fun e => not_row h.bk h.cal (by decide) (e ▸ hg)
  have n2 : gc ≠ W.heap.size := by have := (h.cal.lt gc hg).2; omega
  have hv5 : vc = .slice (some ⟨gc, 0, none⟩) (cls.set c { cl with fin := now }).length cc := by rw [List.length_set]; exact hv
  have f5 : Fr W (W.setCell ⟨gc, c * 9 + 5, none⟩ (.int .i64 now)) (fun k => vc.ownBlock = some k) := (Fr.refl W (fun k => vc.ownBlock = some k)).setCell _ _ (.inl hg)
  have hs5 : (W.setCell ⟨gc, c * 9 + 5, none⟩ (.int .i64 now)).heap.size = W.heap.size := by simp
  have hfin : ((cls.set c { cl with fin := now }).set c { cl with fin := now, ak := ak }).set c { cl with fin := now, ak := ak, av := av } = cls.set c { cl with fin := now, ak := ak, av := av } := by simp only [List.set_set]
  replace hfin := Mr.hid hfin
  have b1' : ∀ o, (W.alloc o).cell? ⟨bb, 1, none⟩ = some (.slice (some ⟨gc, 0, none⟩) cls.length cc) := fun o => by rw [← hv]; exact b1 o
  clear b1
  have hget : ∀ x y : Cl, ((cls.set c x).set c y)[c]? = some y := fun x y => by simp [hl]
  replace hget := Mr.hid hget
  generalize hN : cls.length = N at *
  replace hN := Mr.hid hN
  replace hv := Mr.hid hv
  replace hg := Mr.hid hg
  replace h := Mr.hid h
  replace q5 := Mr.hid q5
  replace f5 := Mr.hid f5
  replace hv5 := Mr.hid hv5
  replace hcl := Mr.hid hcl
  go_enter Tryz.func37, Tryz.ntmps37
  go_wp2
  have m2 := q5.out.below ((Below.refl _ (W.setCell ⟨gc, c * 9 + 5, none⟩ (.int .i64 now))).alloc (Nat.le_refl _) (.cells #[.int .i64 ak, .int .i64 av] 59))
  have f2 := f5.out.alloc (.cells #[.int .i64 ak, .int .i64 av] 59)
  have x0 : ((W.setCell ⟨gc, c * 9 + 5, none⟩ (.int .i64 now)).alloc (.cells #[.int .i64 ak, .int .i64 av] 59)).cell? ⟨W.heap.size, 0, none⟩ = some (.int .i64 ak) := newsAt (W.setCell ⟨gc, c * 9 + 5, none⟩ (.int .i64 now)) _ #[.int .i64 ak, .int .i64 av] 59 _ hs5.symm rfl 0 _ rfl
  have x1 : ((W.setCell ⟨gc, c * 9 + 5, none⟩ (.int .i64 now)).alloc (.cells #[.int .i64 ak, .int .i64 av] 59)).cell? ⟨W.heap.size, 1, none⟩ = some (.int .i64 av) := newsAt (W.setCell ⟨gc, c * 9 + 5, none⟩ (.int .i64 now)) _ #[.int .i64 ak, .int .i64 av] 59 _ hs5.symm rfl 1 _ rfl
  generalize (W.setCell ⟨gc, c * 9 + 5, none⟩ (.int .i64 now)).alloc (.cells #[.int .i64 ak, .int .i64 av] 59) = W2 at *
  have g1 := m2.b1
  rw [hv.out] at g1
  have g7 := m2.atCl hv5.out c 7 _ _ hcl.out rfl
  have g8 := m2.atCl hv5.out c 8 _ _ hcl.out rfl
  have gz := fun j => m2.cal.frozen hg.out j
  have p7 := m2.putCl hv5.out c 7 _ { cl with fin := now, ak := ak } (.int .i64 ak) hcl.out (by decide) rfl
  have p8 := p7.putCl (by rw [List.length_set]; exact hv5.out) c 8 { cl with fin := now, ak := ak } { cl with fin := now, ak := ak, av := av } (.int .i64 av) (hget.out _ _) (by decide) rfl
  rw [hfin.out] at p8
  have f8 := (f2.setCell ⟨gc, c * 9 + 7, none⟩ (.int .i64 ak) (.inl hg.out)).setCell ⟨gc, c * 9 + 8, none⟩ (.int .i64 av) (.inl hg.out)
  replace p8 := Mr.hid p8
  replace f8 := Mr.hid f8
  clear p7 m2 f2 k5 kz b1' q5 f5 hB
  go_region_held3 (fun w' => w'.cell? ⟨bb, 1, none⟩ = some (.slice (some ⟨gc, 0, none⟩) N cc) ∧ w'.cell? ⟨W.heap.size, 0, none⟩ = some (.int .i64 ak) ∧ w'.cell? ⟨W.heap.size, 1, none⟩ = some (.int .i64 av)) (go_keep) (fail)
  go_wp2
  go_end0
  exact ⟨rfl, p8.out.below (Below.refl _ _).drew, f8.out.drew⟩
/-- What is noted of an answer: who told none is done. -/
def endA (ak av : Int) : Int × Int := if ak = 0 then (1, 0) else (ak, av)
set_option maxRecDepth 100000 in
set_option maxHeartbeats 1000000 in
theorem end_done (h : Mac W U S b bb bm vk vt vc vs vw vl va ths n cls shs ws mv lg ah) (c : Nat) (cl : Cl) (hc : cls[c]? = some cl) (now av0 : Int) :
    Calls Tryz.prog 37 #[.pointer (some ⟨bb, 0, none⟩), .int .i64 (c : Int), .int .i64 now, .agg #[.int .i64 0, .int .i64 av0]] W fun e w' => e = .returned (.tuple #[]) ∧ Mac w' U S b bb bm vk vt vc vs vw vl va ths n (cls.set c { cl with fin := now, ak := 1, av := 0 }) shs ws mv lg ah ∧ Fr W w' (fun k => vc.ownBlock = some k) := by
  have hl := (List.getElem?_eq_some_iff.1 hc).1
  obtain ⟨gc, cc, hv, _⟩ := h.cal.there (by omega)
  have hg : vc.ownBlock = some gc := by rw [hv]; rfl
  have hB := fun o => (Below.refl W.heap.size W).alloc (Nat.le_refl _) o
  have b1 := fun o => (h.below (hB o)).b1
  have k5 := fun o => (h.below (hB o)).atCl hv c 5 cl _ hc rfl
  have kz := fun o j => (h.below (hB o)).cal.frozen hg j
  have q5 := h.putCl hv c 5 cl { cl with fin := now } (.int .i64 now) hc (by decide) rfl
  have hcl : (cls.set c { cl with fin := now })[c]? = some { cl with fin := now } := by simp [hl]
  have n1 : gc ≠ bb := fun e => not_row h.bk h.cal (by decide) (e ▸ hg)
  have n2 : gc ≠ W.heap.size := by have := (h.cal.lt gc hg).2; omega
  have hv5 : vc = .slice (some ⟨gc, 0, none⟩) (cls.set c { cl with fin := now }).length cc := by rw [List.length_set]; exact hv
  have f5 : Fr W (W.setCell ⟨gc, c * 9 + 5, none⟩ (.int .i64 now)) (fun k => vc.ownBlock = some k) := (Fr.refl W (fun k => vc.ownBlock = some k)).setCell _ _ (.inl hg)
  have hs5 : (W.setCell ⟨gc, c * 9 + 5, none⟩ (.int .i64 now)).heap.size = W.heap.size := by simp
  have hfin : ((cls.set c { cl with fin := now }).set c { cl with fin := now, ak := 1 }).set c { cl with fin := now, ak := 1, av := 0 } = cls.set c { cl with fin := now, ak := 1, av := 0 } := by simp only [List.set_set]
  replace hfin := Mr.hid hfin
  have b1' : ∀ o, (W.alloc o).cell? ⟨bb, 1, none⟩ = some (.slice (some ⟨gc, 0, none⟩) cls.length cc) := fun o => by rw [← hv]; exact b1 o
  clear b1
  have hget : ∀ x y : Cl, ((cls.set c x).set c y)[c]? = some y := fun x y => by simp [hl]
  replace hget := Mr.hid hget
  generalize hN : cls.length = N at *
  replace hN := Mr.hid hN
  replace hv := Mr.hid hv
  replace hg := Mr.hid hg
  replace h := Mr.hid h
  replace q5 := Mr.hid q5
  replace f5 := Mr.hid f5
  replace hv5 := Mr.hid hv5
  replace hcl := Mr.hid hcl
  go_enter Tryz.func37, Tryz.ntmps37
  go_wp2
  have m2 := q5.out.below ((Below.refl _ (W.setCell ⟨gc, c * 9 + 5, none⟩ (.int .i64 now))).alloc (Nat.le_refl _) (.cells #[.int .i64 1, .int .i64 0] 59))
  have f2 := f5.out.alloc (.cells #[.int .i64 1, .int .i64 0] 59)
  have x0 : ((W.setCell ⟨gc, c * 9 + 5, none⟩ (.int .i64 now)).alloc (.cells #[.int .i64 1, .int .i64 0] 59)).cell? ⟨W.heap.size, 0, none⟩ = some (.int .i64 1) := newsAt (W.setCell ⟨gc, c * 9 + 5, none⟩ (.int .i64 now)) _ #[.int .i64 1, .int .i64 0] 59 _ hs5.symm rfl 0 _ rfl
  have x1 : ((W.setCell ⟨gc, c * 9 + 5, none⟩ (.int .i64 now)).alloc (.cells #[.int .i64 1, .int .i64 0] 59)).cell? ⟨W.heap.size, 1, none⟩ = some (.int .i64 0) := newsAt (W.setCell ⟨gc, c * 9 + 5, none⟩ (.int .i64 now)) _ #[.int .i64 1, .int .i64 0] 59 _ hs5.symm rfl 1 _ rfl
  generalize (W.setCell ⟨gc, c * 9 + 5, none⟩ (.int .i64 now)).alloc (.cells #[.int .i64 1, .int .i64 0] 59) = W2 at *
  have g1 := m2.b1
  rw [hv.out] at g1
  have g7 := m2.atCl hv5.out c 7 _ _ hcl.out rfl
  have g8 := m2.atCl hv5.out c 8 _ _ hcl.out rfl
  have gz := fun j => m2.cal.frozen hg.out j
  have p7 := m2.putCl hv5.out c 7 _ { cl with fin := now, ak := 1 } (.int .i64 1) hcl.out (by decide) rfl
  have p8 := p7.putCl (by rw [List.length_set]; exact hv5.out) c 8 { cl with fin := now, ak := 1 } { cl with fin := now, ak := 1, av := 0 } (.int .i64 0) (hget.out _ _) (by decide) rfl
  rw [hfin.out] at p8
  have f8 := (f2.setCell ⟨gc, c * 9 + 7, none⟩ (.int .i64 1) (.inl hg.out)).setCell ⟨gc, c * 9 + 8, none⟩ (.int .i64 0) (.inl hg.out)
  replace p8 := Mr.hid p8
  replace f8 := Mr.hid f8
  clear p7 m2 f2 k5 kz b1' q5 f5 hB
  go_region_held3 (fun w' => w'.cell? ⟨bb, 1, none⟩ = some (.slice (some ⟨gc, 0, none⟩) N cc) ∧ w'.cell? ⟨W.heap.size, 0, none⟩ = some (.int .i64 1) ∧ w'.cell? ⟨W.heap.size, 1, none⟩ = some (.int .i64 0)) (go_keep) (fail)
  go_wp2
  go_end0
  exact ⟨rfl, p8.out.below (Below.refl _ _).drew, f8.out.drew⟩
theorem end_any (h : Mac W U S b bb bm vk vt vc vs vw vl va ths n cls shs ws mv lg ah) (c : Nat) (cl : Cl) (hc : cls[c]? = some cl) (now ak av : Int) :
    Calls Tryz.prog 37 #[.pointer (some ⟨bb, 0, none⟩), .int .i64 (c : Int), .int .i64 now, .agg #[.int .i64 ak, .int .i64 av]] W fun e w' => e = .returned (.tuple #[]) ∧ Mac w' U S b bb bm vk vt vc vs vw vl va ths n (cls.set c { cl with fin := now, ak := (endA ak av).1, av := (endA ak av).2 }) shs ws mv lg ah ∧ Fr W w' (fun k => vc.ownBlock = some k) := by
  by_cases hak : ak = 0
  · subst hak
    exact end_done h c cl hc now av
  · have e : endA ak av = (ak, av) := by simp [endA, hak]
    rw [e]
    exact end_told h c cl hc now ak av (by simpa using hak)
end
end Go.Proofs.YtnapnhmmopajfaaGreat.Ma
/-
  A STEP of a thread: Machine.step, whatever the task's step does.
-/
namespace Go.Proofs.YtnapnhmmopajfaaGreat.Ma
open Go.RowKit Mr Me
/-- A machine at a world: what it holds, and objects beside it. -/
def Mch (W : World) (U S : Nat → Prop) (q : Ph) (vl va : Value) (s : Ss) (X : Nat → Obj → Prop) : Prop :=
  Xs W U S q X ∧ Mac W U S q.b q.bb q.bm q.vk (.slice (some ⟨q.gt, 0, none⟩) q.nt q.ct) q.vc q.vs q.vw vl va s.ths s.n s.cls s.shs s.ws s.mv s.lg s.ah
/-- What a move makes of a machine that was at W0 with the blocks U0. -/
def Goes (W0 : World) (U0 : Nat → Prop) (q : Ph) (s : Ss) (X : Nat → Obj → Prop) (w : World) : Prop :=
  ∃ U S vl va, Mch w U S q vl va s X ∧ (∀ k, U0 k → U k) ∧ (∀ k, U k → U0 k ∨ W0.heap.size ≤ k) ∧ Fr W0 w U0
def bench (bb gt i : Nat) (now : Int) (sp : Bool) : Obj := .cells #[.pointer (some ⟨bb, 0, none⟩), .pointer (some ⟨gt, i * 5, none⟩), .int .i64 (i : Int), .int .i64 now, .bool sp] 110 (0, 0)
def desk (be : Nat) : Obj := .cells #[.pointer (some ⟨be, 0, none⟩)] 114 (0, 0)
/-- The desk's places. -/
def Ph.at (q : Ph) (N : Nat) : Ph := { q with bd := N + 1, be := N }
section
variable {W0 : World} {U0 S0 X0 : Nat → Prop} {q : Ph} {s : Ss} {X X' : Nat → Obj → Prop} {vl va : Value}
theorem Xs.kept {W W' : World} {U U' S S' : Nat → Prop} (h : Xs W U S q X) (hk : ∀ k, U k → ¬ S k → k ≠ q.gt → q.vc.ownBlock ≠ some k → W'.heap[k]? = W.heap[k]?) (hU : ∀ k, U k → U' k) (hS : ∀ k, U k → ¬ S k → ¬ S' k) : Xs W' U' S' q X := fun k o hX => by
  obtain ⟨h1, h2, h3, h4, h5, h6, h7, h8⟩ := h k o hX
  exact ⟨(hk k h2 h3 h6 h7).trans h1, hU k h2, hS k h2 h3, h4, h5, h6, h7, h8⟩
theorem D.start (h : Mch W0 U0 S0 q vl va s X) (i : Nat) (t : Th) (ht : s.ths[i]? = some t) (now : Int) :
    D W0 U0 S0 X0 (q.at W0.heap.size) i now X false { s with ths := s.ths.set i { t with fr := false } } (((W0.setCell ⟨q.gt, i * 5 + 1, none⟩ (.bool false)).alloc (bench q.bb q.gt i now false)).alloc (desk W0.heap.size)) := by
  obtain ⟨hx, hm⟩ := h
  have h1 := hm.putTh rfl i 1 t { t with fr := false } (.bool false) ht (by decide) rfl
  have hs : (W0.setCell ⟨q.gt, i * 5 + 1, none⟩ (.bool false)).heap.size = W0.heap.size := by simp
  have hB1 := (Below.refl _ (W0.setCell ⟨q.gt, i * 5 + 1, none⟩ (.bool false))).alloc (Nat.le_refl _) (bench q.bb q.gt i now false)
  have hB2 := hB1.alloc (by simp) (desk W0.heap.size)
  have hf : Fr W0 (((W0.setCell ⟨q.gt, i * 5 + 1, none⟩ (.bool false)).alloc (bench q.bb q.gt i now false)).alloc (desk W0.heap.size)) (fun k => S0 k ∨ X0 k ∨ k = (q.at W0.heap.size).gt ∨ (q.at W0.heap.size).vc.ownBlock = some k) := (((Fr.refl _ _).setCell _ _ (.inl (.inr (.inr (.inl rfl))))).alloc _).alloc _
  have nd : ∀ k, U0 k → k < W0.heap.size := hm.ul
  refine ⟨U0, S0, vl, va, ?_, h1.below hB2, ⟨?_, ?_⟩, ⟨fun hu => ?_, fun hu => ?_, ?_, ?_⟩, fun k hk => .inl hk, fun k hk => .inl hk, fun k hk => hk, hf⟩
  · refine Xs.kept hx (fun k hU _ hg _ => ?_) (fun _ h => h) (fun _ _ h => h)
    have hl := nd k hU
    rw [hB2.block k (by rw [hs]; exact hl), Below.heap_setCell _ _ _ k hg]
  · have := heap_alloc_new ((W0.setCell ⟨q.gt, i * 5 + 1, none⟩ (.bool false)).alloc (bench q.bb q.gt i now false)) (desk W0.heap.size)
    rw [World.size_alloc, hs] at this
    exact this
  · have h2 := heap_alloc_new (W0.setCell ⟨q.gt, i * 5 + 1, none⟩ (.bool false)) (bench q.bb q.gt i now false)
    rw [hs] at h2
    exact (Below.heap_alloc _ _ _ (by simp [Ph.at])).trans h2
  · have := nd _ hu
    simp [Ph.at] at this
    omega
  · have := nd _ hu
    simp [Ph.at] at this
  · simp [Ph.at]
  · simp [Ph.at]
/-- Behind the step: the bench is wiped. -/
theorem D.off {i : Nat} {now : Int} {sp : Bool} {s' : Ss} {w1 w2 : World} (hsu : ∀ k, S0 k → U0 k) (hgt : U0 q.gt) (hvc : ∀ k, q.vc.ownBlock = some k → U0 k) (hX0 : ∀ k, X0 k → U0 k) (hD : D W0 U0 S0 X0 (q.at W0.heap.size) i now X' sp s' w1) (hf : Fr w1 w2 (fun k => k = W0.heap.size)) : Goes W0 U0 q s' X' w2 := by
  obtain ⟨U, S, vl', va', hx, hm, hd, hU, hS0, hU0, hU1, hf0⟩ := hD
  have hne : ∀ k, U k → k ≠ W0.heap.size := fun k hk e => hU.2.1 (by rw [← show W0.heap.size = (q.at W0.heap.size).be from rfl, ← e]; exact hk)
  have hk : ∀ k, U k → w2.heap[k]? = w1.heap[k]? := fun k hk => hf.block k (hm.ul k hk) (hne k hk)
  refine ⟨U, S, vl', va', ⟨?_, hm.kept hk (fun _ h => h) (fun k hk => Nat.lt_of_lt_of_le (hm.ul k hk) hf.size)⟩, hU1, hU0, ?_⟩
  · intro k o hX
    obtain ⟨x1, x2, x3⟩ := hx k o hX
    exact ⟨(hk k x2).trans x1, x2, x3⟩
  · have h1 : Fr W0 w1 U0 := hf0.mono (fun k hk => by
      rcases hk with hk | hk | hk | hk
      · exact hsu k hk
      · exact hX0 k hk
      · rw [hk]; exact hgt
      · exact hvc k hk)
    exact h1.trans (hf.mono (fun k hk => .inr (by omega)))
theorem Goes.size {s' : Ss} {w : World} (h : Goes W0 U0 q s' X w) : W0.heap.size ≤ w.heap.size := by
  obtain ⟨U, S, vl, va, _, _, _, hf⟩ := h
  exact hf.size
/-- A further turn of the rows of the calls or of the threads. -/
theorem Goes.turn {s' s'' : Ss} {w1 w2 : World} (h : Goes W0 U0 q s' X w1) (hc : ∀ {U S : Nat → Prop} {vl va : Value}, Mch w1 U S q vl va s' X → Mac w2 U S q.b q.bb q.bm q.vk (.slice (some ⟨q.gt, 0, none⟩) q.nt q.ct) q.vc q.vs q.vw vl va s''.ths s''.n s''.cls s''.shs s''.ws s''.mv s''.lg s''.ah) (hf : Fr w1 w2 (fun k => q.vc.ownBlock = some k ∨ k = q.gt)) (hg : ∀ k, (q.vc.ownBlock = some k ∨ k = q.gt) → U0 k ∨ W0.heap.size ≤ k) : Goes W0 U0 q s'' X w2 := by
  obtain ⟨U, S, vl, va, hM, h1, h2, hf0⟩ := h
  refine ⟨U, S, vl, va, ⟨?_, hc hM⟩, h1, h2, hf0.trans (hf.mono (fun k hk => hg k hk))⟩
  intro k o hX
  obtain ⟨x1, x2, x3, x4, x5, x6, x7, x8⟩ := hM.1 k o hX
  refine ⟨(hf.block k (hM.2.ul k x2) (fun e => ?_)).trans x1, x2, x3, x4, x5, x6, x7, x8⟩
  rcases e with e | e
  · exact x7 e
  · exact x6 e
set_option maxRecDepth 100000 in
set_option maxHeartbeats 1000000 in
theorem step_on (h : Mch W0 U0 S0 q vl va s X) (i : Nat) (t : Th) (ht : s.ths[i]? = some t) (now : Int) (ty : TypeId) (tv : Value) (htv : t.tv = .iface ty tv) (hX0 : ∀ k, X0 k → U0 k) {ths' : List Th} {cls' : List Cl} {Z : Ss → Value → (Nat → Obj → Prop) → World → Prop} 
    (HW : ∀ W1, D W0 U0 S0 X0 (q.at W0.heap.size) i now X false { s with ths := s.ths.set i { t with fr := false } } W1 → Calls Tryz.prog 36 #[t.tv, .bool t.fr, .pointer (some ⟨W0.heap.size + 1, 0, none⟩)] W1 fun e w' => e = .returned (.bool false) ∧ ∃ s' vs' X' sp', D W0 U0 S0 X0 (({ q with vs := vs' } : Ph).at W0.heap.size) i now X' sp' s' w' ∧ s'.ths = ths' ∧ s'.cls = cls' ∧ Z s' vs' X' w') :
    Calls Tryz.prog 23 #[.pointer (some ⟨q.b, 0, none⟩), .int .i64 (i : Int), .int .i64 now] W0 fun e w' => e = .returned (.bool true) ∧ ∃ s' vs' X' w1, Goes W0 U0 { q with vs := vs' } s' X' w' ∧ s'.ths = ths' ∧ s'.cls = cls' ∧ Z s' vs' X' w1 := by
  have hD := D.start (X0 := X0) h i t ht now
  obtain ⟨hx, hm⟩ := h
  have hil : i < s.ths.length := (List.getElem?_eq_some_iff.1 ht).1
  have hnt : s.ths.length = q.nt := by
    obtain ⟨a', c', e, _⟩ := hm.thr.form
    injection e with e1 e2 e3
    exact e2.symm
  have hiq : i < q.nt := by omega
  have hiq' : (i : Int) < (q.nt : Int) := by omega
  have m1 := hm.m1
  have m3 := hm.m3
  have a0 := hm.atTh rfl i 0 t _ ht rfl
  have a1 := hm.atTh rfl i 1 t _ ht rfl
  have a1z := hm.thr.frozen (g := q.gt) rfl (i * 5 + 1)
  rw [Nat.add_zero, htv] at a0
  have W1c := HW _ hD
  rw [htv] at W1c
  simp only [bench, desk] at W1c
  have hgl := (hm.thr.lt q.gt rfl).2
  have a0' : ∀ o, ((W0.setCell ⟨q.gt, i * 5 + 1, none⟩ (.bool false)).alloc o).cell? ⟨q.gt, i * 5, none⟩ = some (.iface ty tv) := fun o => by
    rw [World.cell?_alloc_past _ _ _ (by simpa using hgl), World.cell?_setCell_other _ _ _ _ (by simp)]
    exact a0
  have ngb : q.gt ≠ q.b := fun e => not_row hm.blk hm.thr (by decide) (by rw [← e]; rfl)
  have hsu := hm.su
  have hgtU := (hm.thr.lt q.gt rfl).1.1
  have hvcU := fun k hk => (hm.cal.lt k hk).1.1
  replace hm := Mr.hid hm
  replace hsu := Mr.hid hsu
  replace hgtU := Mr.hid hgtU
  replace hvcU := Mr.hid hvcU
  replace hx := Mr.hid hx
  replace hD := Mr.hid hD
  replace hnt := Mr.hid hnt
  clear HW
  go_enter Tryz.func23, Tryz.ntmps23
  go_wp2_with (go_at_call 36; refine W1c.mono ?_; clear W1c; rintro e w1 ⟨rfl, s', vs', X', sp', h1, ea, eb, hz⟩; subst ea eb; obtain ⟨d0, e0, e1, e2, e3, e4, e4z, b0, b1⟩ := h1.cells; have ez := h1.dk.ez; simp only [Ph.at] at d0 e0 e1 e2 e3 e4 e4z b0 b1 ez; replace h1 := Mr.hid h1; replace hz := Mr.hid hz)
  go_ret
  have fin : Goes W0 U0 { q with vs := vs' } s' X' _ := D.off (q := { q with vs := vs' }) hsu.out hgtU.out hvcU.out hX0 h1.out ((((((Fr.refl w1 (fun k => k = W0.heap.size)).setCell ⟨W0.heap.size, 0, none⟩ (.pointer none) (.inl rfl)).setCell ⟨W0.heap.size, 1, none⟩ (.pointer none) (.inl rfl)).setCell ⟨W0.heap.size, 2, none⟩ (.int .i64 0) (.inl rfl)).setCell ⟨W0.heap.size, 3, none⟩ (.int .i64 0) (.inl rfl)).setCell ⟨W0.heap.size, 4, none⟩ (.bool false) (.inl rfl))
  exact ⟨rfl, s', vs', X', w1, fin, rfl, rfl, hz.out⟩
set_option maxRecDepth 100000 in
set_option maxHeartbeats 1000000 in
theorem step_off (h : Mch W0 U0 S0 q vl va s X) (i : Nat) (t : Th) (ht : s.ths[i]? = some t) (now : Int) (ty : TypeId) (tv : Value) (htv : t.tv = .iface ty tv) (hX0 : ∀ k, X0 k → U0 k) {ths' : List Th} {cls' : List Cl} {Z : Ss → Value → (Nat → Obj → Prop) → World → Prop} 
    (HW : ∀ W1, D W0 U0 S0 X0 (q.at W0.heap.size) i now X false { s with ths := s.ths.set i { t with fr := false } } W1 → Calls Tryz.prog 36 #[t.tv, .bool t.fr, .pointer (some ⟨W0.heap.size + 1, 0, none⟩)] W1 fun e w' => e = .returned (.bool true) ∧ ∃ s' vs' X' sp', D W0 U0 S0 X0 (({ q with vs := vs' } : Ph).at W0.heap.size) i now X' sp' s' w' ∧ s'.ths = ths' ∧ s'.cls = cls' ∧ Z s' vs' X' w')
    (t' : Th) (ht' : ths'[i]? = some t') (c : Nat) (hcall : t'.call = c) (cl : Cl) (hcl : cls'[c]? = some cl) :
    Calls Tryz.prog 23 #[.pointer (some ⟨q.b, 0, none⟩), .int .i64 (i : Int), .int .i64 now] W0 fun e w' => e = .returned (.bool true) ∧ ∃ s' vs' X' w1, Goes W0 U0 { q with vs := vs' } { s' with cls := s'.cls.set c { cl with fin := now, ak := (endA t'.ak t'.av).1, av := (endA t'.ak t'.av).2 }, ths := s'.ths.set i ⟨.nilIface, false, c, 0, 0⟩ } X' w' ∧ s'.ths = ths' ∧ s'.cls = cls' ∧ Z s' vs' X' w1 := by
  have hD := D.start (X0 := X0) h i t ht now
  obtain ⟨hx, hm⟩ := h
  have hil : i < s.ths.length := (List.getElem?_eq_some_iff.1 ht).1
  have hnt : s.ths.length = q.nt := by
    obtain ⟨a', c', e, _⟩ := hm.thr.form
    injection e with e1 e2 e3
    exact e2.symm
  have hiq : i < q.nt := by omega
  have hiq' : (i : Int) < (q.nt : Int) := by omega
  have m1 := hm.m1
  have m3 := hm.m3
  have a0 := hm.atTh rfl i 0 t _ ht rfl
  have a1 := hm.atTh rfl i 1 t _ ht rfl
  have a1z := hm.thr.frozen (g := q.gt) rfl (i * 5 + 1)
  rw [Nat.add_zero, htv] at a0
  have W1c := HW _ hD
  rw [htv] at W1c
  simp only [bench, desk] at W1c
  have hgl := (hm.thr.lt q.gt rfl).2
  have a0' : ∀ o, ((W0.setCell ⟨q.gt, i * 5 + 1, none⟩ (.bool false)).alloc o).cell? ⟨q.gt, i * 5, none⟩ = some (.iface ty tv) := fun o => by
    rw [World.cell?_alloc_past _ _ _ (by simpa using hgl), World.cell?_setCell_other _ _ _ _ (by simp)]
    exact a0
  have ngb : q.gt ≠ q.b := fun e => not_row hm.blk hm.thr (by decide) (by rw [← e]; rfl)
  have hsu := hm.su
  have hgtU := (hm.thr.lt q.gt rfl).1.1
  have hvcU := fun k hk => (hm.cal.lt k hk).1.1
  replace hm := Mr.hid hm
  replace hsu := Mr.hid hsu
  replace hgtU := Mr.hid hgtU
  replace hvcU := Mr.hid hvcU
  replace hx := Mr.hid hx
  replace hD := Mr.hid hD
  replace hnt := Mr.hid hnt
  clear HW
  have hgU : ∀ k, (q.vc.ownBlock = some k ∨ k = q.gt) → U0 k ∨ W0.heap.size ≤ k := fun k hk => .inl (by
    rcases hk with hk | hk
    · exact (hm.out.cal.lt k hk).1.1
    · rw [hk]; exact (hm.out.thr.lt q.gt rfl).1.1)
  go_enter Tryz.func23, Tryz.ntmps23
  go_wp2_with (go_at_call 36; refine W1c.mono ?_; clear W1c; rintro e w1 ⟨rfl, s', vs', X', sp', h1, ea, eb, hz⟩; subst ea eb; obtain ⟨d0, e0, e1, e2, e3, e4, e4z, b0, b1⟩ := h1.cells; have ez := h1.dk.ez; simp only [Ph.at] at d0 e0 e1 e2 e3 e4 e4z b0 b1 ez; replace h1 := Mr.hid h1; replace hz := Mr.hid hz)
  have fin : Goes W0 U0 { q with vs := vs' } s' X' _ := D.off (q := { q with vs := vs' }) hsu.out hgtU.out hvcU.out hX0 h1.out ((((((Fr.refl w1 (fun k => k = W0.heap.size)).setCell ⟨W0.heap.size, 0, none⟩ (.pointer none) (.inl rfl)).setCell ⟨W0.heap.size, 1, none⟩ (.pointer none) (.inl rfl)).setCell ⟨W0.heap.size, 2, none⟩ (.int .i64 0) (.inl rfl)).setCell ⟨W0.heap.size, 3, none⟩ (.int .i64 0) (.inl rfl)).setCell ⟨W0.heap.size, 4, none⟩ (.bool false) (.inl rfl))
  generalize ((((w1.setCell ⟨W0.heap.size, 0, none⟩ (.pointer none)).setCell ⟨W0.heap.size, 1, none⟩ (.pointer none)).setCell ⟨W0.heap.size, 2, none⟩ (.int .i64 0)).setCell ⟨W0.heap.size, 3, none⟩ (.int .i64 0)).setCell ⟨W0.heap.size, 4, none⟩ (.bool false) = w2 at *
  clear d0 e0 e1 e2 e3 e4 e4z b0 b1 ez h1 a0 a1 a1z a0' m1 m3
  obtain ⟨U, S, vl', va', ⟨hx2, hm2⟩, hu1, hu2, hf2⟩ := id fin
  have m3 := hm2.m3
  have t2 := hm2.atTh rfl i 2 t' _ ht' rfl
  have t3 := hm2.atTh rfl i 3 t' _ ht' rfl
  have t4 := hm2.atTh rfl i 4 t' _ ht' rfl
  rw [hcall] at t2
  have E := fun (w' : World) (B : Below w2.heap.size w2 w') => end_any (hm2.below B) c cl hcl now t'.ak t'.av
  have hdr : Below w2.heap.size w2 w2.drew := (Below.refl _ _).drew
  have t4' : w2.cell? ⟨q.gt, i * 5 + 3 + 1, none⟩ = some (.int .i64 t'.av) := t4
  have cellW := fun (w3 : World) {cls' : List Cl} (h3 : Mac w3 U S q.b q.bb q.bm q.vk (.slice (some ⟨q.gt, 0, none⟩) q.nt q.ct) q.vc vs' q.vw vl' va' s'.ths s'.n cls' s'.shs s'.ws s'.mv s'.lg s'.ah) => (show w3.cell? ⟨q.b, 3, none⟩ = some (.pointer (some ⟨q.bb, 0, none⟩)) ∧ w3.cell? ⟨q.gt, i * 5, none⟩ = some t'.tv ∧ w3.cell? ⟨q.gt, i * 5 + 1, none⟩ = some (.bool t'.fr) ∧ w3.cell? ⟨q.gt, i * 5 + 2, none⟩ = some (.int .i64 (c : Int)) ∧ w3.cell? ⟨q.gt, i * 5 + 3, none⟩ = some (.int .i64 t'.ak) ∧ w3.cell? ⟨q.gt, i * 5 + 4, none⟩ = some (.int .i64 t'.av) ∧ ∀ j, w3.frozen? ⟨q.gt, j, none⟩ = false from
    ⟨h3.m3, h3.atTh rfl i 0 t' _ ht' rfl, h3.atTh rfl i 1 t' _ ht' rfl, by rw [← hcall]; exact h3.atTh rfl i 2 t' _ ht' rfl, h3.atTh rfl i 3 t' _ ht' rfl, h3.atTh rfl i 4 t' _ ht' rfl, fun j => h3.thr.frozen (g := q.gt) rfl j⟩)
  have hlc := (List.getElem?_eq_some_iff.1 hcl).1
  have fin3 := fun (w3 w4 : World) (h3 : Mac w3 U S q.b q.bb q.bm q.vk (.slice (some ⟨q.gt, 0, none⟩) q.nt q.ct) q.vc vs' q.vw vl' va' s'.ths s'.n (s'.cls.set c { cl with fin := now, ak := (endA t'.ak t'.av).1, av := (endA t'.ak t'.av).2 }) s'.shs s'.ws s'.mv s'.lg s'.ah) (f3 : Fr w2 w3 (fun k => q.vc.ownBlock = some k)) (h4 : w4 = ((((w3.setCell ⟨q.gt, i * 5, none⟩ .nilIface).setCell ⟨q.gt, i * 5 + 1, none⟩ (.bool false)).setCell ⟨q.gt, i * 5 + 2, none⟩ (.int .i64 (c : Int))).setCell ⟨q.gt, i * 5 + 3, none⟩ (.int .i64 0)).setCell ⟨q.gt, i * 5 + 4, none⟩ (.int .i64 0)) =>
    (show Goes W0 U0 { q with vs := vs' } { s' with cls := s'.cls.set c { cl with fin := now, ak := (endA t'.ak t'.av).1, av := (endA t'.ak t'.av).2 }, ths := s'.ths.set i ⟨.nilIface, false, c, 0, 0⟩ } X' w4 from by
      have q4 := h3.wipeTh rfl i t' ⟨.nilIface, false, c, 0, 0⟩ ht'
      have f4 : Fr w2 w4 (fun k => q.vc.ownBlock = some k ∨ k = q.gt) := by
        rw [h4]
        exact ((((((f3.mono (fun k hk => .inl hk)).setCell _ _ (.inl (.inr rfl))).setCell _ _ (.inl (.inr rfl))).setCell _ _ (.inl (.inr rfl))).setCell _ _ (.inl (.inr rfl))).setCell _ _ (.inl (.inr rfl)))
      refine ⟨U, S, vl', va', ⟨?_, by rw [h4]; exact q4⟩, hu1, hu2, hf2.trans (f4.mono (fun k hk => hgU k hk))⟩
      intro k o hX
      obtain ⟨x1, x2, x3, x4, x5, x6, x7, x8⟩ := hx2 k o hX
      refine ⟨(f4.block k (hm2.ul k x2) (fun e => ?_)).trans x1, x2, x3, x4, x5, x6, x7, x8⟩
      rcases e with e | e
      · exact x7 e
      · exact x6 e)
  replace hm2 := Mr.hid hm2
  replace hx2 := Mr.hid hx2
  replace fin := Mr.hid fin
  replace hgU := Mr.hid hgU
  replace hu1 := Mr.hid hu1
  replace hu2 := Mr.hid hu2
  go_region_held3 (fun w' => w'.cell? ⟨q.b, 3, none⟩ = some (.pointer (some ⟨q.bb, 0, none⟩)) ∧ w'.cell? ⟨q.gt, i * 5 + 2, none⟩ = some (.int .i64 (c : Int)) ∧ w'.cell? ⟨q.gt, i * 5 + 3, none⟩ = some (.int .i64 t'.ak) ∧ w'.cell? ⟨q.gt, i * 5 + 3 + 1, none⟩ = some (.int .i64 t'.av)) (go_keep)
    (first | (go_at_call 37; refine (E _ hdr).mono ?_; clear E; rintro e w3 ⟨rfl, h3, f3⟩; obtain ⟨g1, g2, g3, g4, g5, g6, gz⟩ := cellW w3 h3; have g6' : w3.cell? ⟨q.gt, i * 5 + 3 + 1, none⟩ = some (.int .i64 t'.av) := g6; have fin4 := fun w4 => fin3 w3 w4 h3 ((Fr.refl w2 _).drew.trans (f3.mono (fun _ => .inl))); clear fin3 cellW; replace h3 := Mr.hid h3; replace f3 := Mr.hid f3))
  have fin5 := fin4 _ rfl
  clear fin4
  replace fin5 := Mr.hid fin5
  go_wp2
  go_ret
  exact ⟨rfl, s', vs', X', w1, fin5.out, rfl, rfl, hz.out⟩
end
end Go.Proofs.YtnapnhmmopajfaaGreat.Ma
