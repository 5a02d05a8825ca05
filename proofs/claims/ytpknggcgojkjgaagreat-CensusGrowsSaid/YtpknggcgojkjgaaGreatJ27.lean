import Derived.Test.YtpknggcgojkjgaaGreatJ25
import Derived.Test.YtpknggcgojkjgaaGreatJ12
import Derived.Test.YtpknggcgojkjgaaGreatJ26
import Derived.Test.YtpknggcgojkjgaaGreatJ14
/-
  CENSUS: the monitor that makes the shifts.
-/
namespace Go.Proofs.YtpknggcgojkjgaaGreat.Cn
open Go.RowKit Mr Md
set_option linter.unusedVariables false
set_option linter.unusedSimpArgs false
set_option maxRecDepth 100000
theorem frc {w w' : World} {S : Nat → Prop} (h : Fr w w' S) {b : Nat} (hl : b < w.heap.size) (hn : ¬ S b) (o : Nat) : w'.cell? ⟨b, o, none⟩ = w.cell? ⟨b, o, none⟩ := by
  have := h.block b hl hn
  simp [World.cell?, this]
set_option maxHeartbeats 8000000 in
theorem turning_any {w : World} {T : Nat → Prop} {n bs g1 g2 ba bt : Nat} {s : Sk} {v2 : Value} {sh : List Sx} (hw : Sw w n bs g1 g2 s) (ho : s.Ok n) (a0 : w.cell? ⟨ba, 0, none⟩ = some (.pointer (some ⟨bs, 0, none⟩))) (al : ba < w.heap.size) (na : ¬ (ba = bs ∨ ba = g1 ∨ ba = g2)) (t10 : w.cell? ⟨bt, 10, none⟩ = some v2) (tl : bt < w.heap.size) (nt : ¬ (bt = bs ∨ bt = g1 ∨ bt = g2))
    (hsh : Sl w T 5 v2 sh.length (sxs sh)) (hT : ∀ k, T k → ¬ (k = bs ∨ k = g1 ∨ k = g2)) (e : Ev) (m : Nat) (hm : e.nb = (m : Int)) (x : Sx) (hx : sh[m]? = some x) (hxs : 0 ≤ x.slot ∧ x.slot < (n : Int)) (hto : 0 ≤ x.to ∧ x.to < 6) (hth : 0 ≤ x.th ∧ x.th < 16) :
    Calls Tryz.prog 79 #[e.val, .pointer (some ⟨ba, 0, none⟩), .pointer (some ⟨bt, 0, none⟩)] w fun r w' => r = .returned (.bool true) ∧ Sw w' n bs g1 g2 (s.turn x) ∧ Fr w w' (fun k => k = bs ∨ k = g1 ∨ k = g2) := by
  have B0 := (Below.refl w.heap.size w).alloc (Nat.le_refl _) (evO e)
  have A := Mr.hid (hw.below B0)
  have R := Mr.hid (hsh.below B0)
  have F : Hid (Fr w (w.alloc (evO e)) (fun k => k = bs ∨ k = g1 ∨ k = g2)) := (Fr.refl _ _).alloc _
  have hb : Hid ((w.alloc (evO e)).heap[w.heap.size]? = some (evO e)) := heap_alloc_new _ _
  have q1 := hw.box.lt
  have q2 := hw.r1.lt
  have q3 := hw.r2.lt
  have nB : Hid (¬ (w.heap.size = bs ∨ w.heap.size = g1 ∨ w.heap.size = g2)) := by show ¬ _; omega
  replace a0 := (B0.cell (p := ⟨ba, 0, none⟩) al).trans a0
  replace t10 := (B0.cell (p := ⟨bt, 10, none⟩) tl).trans t10
  have al' := Nat.lt_of_lt_of_le al B0.size
  have tl' := Nat.lt_of_lt_of_le tl B0.size
  obtain ⟨a2, p2, hv2, hp2⟩ := hsh.form
  clear hw hp2 hsh B0 q1 q2 q3 al tl
  obtain ⟨kd, mv, th, nm⟩ := e
  simp only at hm
  subst hm
  unfold Ev.val
  unfold evO at A F hb R a0 t10 al' tl'
  replace hx := Mr.hid hx
  replace ho := Mr.hid ho
  replace na := Mr.hid na
  replace nt := Mr.hid nt
  replace hT := Mr.hid hT
  replace hxs := Mr.hid hxs
  replace hto := Mr.hid hto
  replace hth := Mr.hid hth
  go_enter Tryz.func79, Tryz.ntmps79
  go_upto_region 1 with (fail)
  generalize (w.alloc _) = wa at *
  generalize w.heap.size = B at *
  obtain ⟨b0, b1, b2, b3⟩ := evO_cells (e := ⟨kd, mv, th, (m : Int)⟩) hb.out
  have bl := (Array.getElem?_eq_some_iff.1 hb.out).1
  have al := al'
  have tl := tl'
  clear al' tl'
  have hrow := R.out
  rw [hv2] at t10 hrow
  obtain ⟨bc, oc, rfl, hTb, X5⟩ := sx_at hrow hx.out
  obtain ⟨xl, x0, x1, x2, x3, x4⟩ := X5
  have hml : m < sh.length := (List.getElem?_eq_some_iff.1 hx.out).1
  have hmI : (m : Int) < (sh.length : Int) := by omega
  have nc := Mr.hid (hT.out _ hTb)
  replace hrow := Mr.hid hrow
  replace hTb := Mr.hid hTb
  replace hv2 := Mr.hid hv2
  have TN := Mr.hid (fun w' (hB : Below wa.heap.size wa w') => turn_any (A.out.below hB) ho.out x hxs.out hto.out hth.out)
  unfold Sx.val at TN
  have KK : Hid (∀ w', Fr wa w' (fun k => k = bs ∨ k = g1 ∨ k = g2) → w'.cell? ⟨ba, 0, none⟩ = some (.pointer (some ⟨bs, 0, none⟩)) ∧ w'.cell? ⟨bt, 10, none⟩ = some (.slice (some ⟨bc, oc, none⟩) sh.length p2) ∧ w'.cell? ⟨B, 3, none⟩ = some (.int .i64 (m : Int)) ∧ w'.cell? ⟨bc, oc + m * 5, none⟩ = some (.int .i64 x.mv) ∧ w'.cell? ⟨bc, oc + m * 5 + 1, none⟩ = some (.int .i64 x.th) ∧ w'.cell? ⟨bc, oc + m * 5 + 2, none⟩ = some (.int .i64 x.slot) ∧ w'.cell? ⟨bc, oc + m * 5 + 3, none⟩ = some (.int .i64 x.fr) ∧ w'.cell? ⟨bc, oc + m * 5 + 4, none⟩ = some (.int .i64 x.to)) := fun w' h => ⟨(frc h al na.out _).trans a0, (frc h tl nt.out _).trans t10, (frc h bl nB.out _).trans b3, (frc h xl nc.out _).trans x0, (frc h xl nc.out _).trans x1, (frc h xl nc.out _).trans x2, (frc h xl nc.out _).trans x3, (frc h xl nc.out _).trans x4⟩
  refine wp_region_held_drew (S := (fun w' => w'.cell? ⟨ba, 0, none⟩ = some (.pointer (some ⟨bs, 0, none⟩)) ∧ w'.cell? ⟨bt, 10, none⟩ = some (.slice (some ⟨bc, oc, none⟩) sh.length p2) ∧ w'.cell? ⟨B, 3, none⟩ = some (.int .i64 (m : Int)) ∧ w'.cell? ⟨bc, oc + m * 5, none⟩ = some (.int .i64 x.mv) ∧ w'.cell? ⟨bc, oc + m * 5 + 1, none⟩ = some (.int .i64 x.th) ∧ w'.cell? ⟨bc, oc + m * 5 + 2, none⟩ = some (.int .i64 x.slot) ∧ w'.cell? ⟨bc, oc + m * 5 + 3, none⟩ = some (.int .i64 x.fr) ∧ w'.cell? ⟨bc, oc + m * 5 + 4, none⟩ = some (.int .i64 x.to))) (by kernel_rfl) (KK.out _ ((Fr.refl _ _).drew)) (fun hS => ?_)
  try simp only [Act.put, List.getElem_toArray, List.getElem_cons_zero, List.getElem_cons_succ, List.setIfInBounds_toArray, List.set_cons_zero, List.set_cons_succ]
  refine wpAnyH_take (i := 0) (v := .pointer (some ⟨bs, 0, none⟩)) rfl (by kernel_rfl) (by kernel_rfl) (by kernel_rfl) (fun _ _ _ h => h) (Or.inl ⟨by kernel_rfl, fun w' hw => ?y0⟩) hS ?_
  case y0 =>
    clear hS
    obtain ⟨hw0, hw1, hw2, hw3, hw4, hw5, hw6, hw7⟩ := hw
    go_simp
  try simp only [Act.put, List.getElem_toArray, List.getElem_cons_zero, List.getElem_cons_succ, List.setIfInBounds_toArray, List.set_cons_zero, List.set_cons_succ]
  refine wpAnyH_take (i := 1) (v := .pointer (some ⟨bt, 8, none⟩)) rfl (by kernel_rfl) (by kernel_rfl) (by kernel_rfl) (fun _ _ _ h => h) (Or.inl ⟨by kernel_rfl, fun w' hw => ?y1⟩) hS ?_
  case y1 =>
    clear hS
    have hw2 := hw
    go_simp
  try simp only [Act.put, List.getElem_toArray, List.getElem_cons_zero, List.getElem_cons_succ, List.setIfInBounds_toArray, List.set_cons_zero, List.set_cons_succ]
  refine wpAnyH_take (i := 2) (v := .pointer (some ⟨bt, 10, none⟩)) rfl (by kernel_rfl) (by kernel_rfl) (by kernel_rfl) (fun _ _ _ h => h) (Or.inl ⟨by kernel_rfl, fun w' hw => ?y2⟩) hS ?_
  case y2 =>
    clear hS
    have hw2 := hw
    go_simp
  try simp only [Act.put, List.getElem_toArray, List.getElem_cons_zero, List.getElem_cons_succ, List.setIfInBounds_toArray, List.set_cons_zero, List.set_cons_succ]
  refine wpAnyH_take (i := 3) (v := .slice (some ⟨bc, oc, none⟩) sh.length p2) rfl (by kernel_rfl) (by kernel_rfl) (by kernel_rfl) (fun _ _ _ h => h) (Or.inl ⟨by kernel_rfl, fun w' hw => ?y3⟩) hS ?_
  case y3 =>
    clear hS
    obtain ⟨hw0, hw1, hw2, hw3, hw4, hw5, hw6, hw7⟩ := hw
    go_simp
  try simp only [Act.put, List.getElem_toArray, List.getElem_cons_zero, List.getElem_cons_succ, List.setIfInBounds_toArray, List.set_cons_zero, List.set_cons_succ]
  refine wpAnyH_take (i := 4) (v := .pointer (some ⟨B, 3, none⟩)) rfl (by kernel_rfl) (by kernel_rfl) (by kernel_rfl) (fun _ _ _ h => h) (Or.inl ⟨by kernel_rfl, fun w' hw => ?y4⟩) hS ?_
  case y4 =>
    clear hS
    have hw2 := hw
    go_simp
  try simp only [Act.put, List.getElem_toArray, List.getElem_cons_zero, List.getElem_cons_succ, List.setIfInBounds_toArray, List.set_cons_zero, List.set_cons_succ]
  refine wpAnyH_take (i := 5) (v := .int .i64 (m : Int)) rfl (by kernel_rfl) (by kernel_rfl) (by kernel_rfl) (fun _ _ _ h => h) (Or.inl ⟨by kernel_rfl, fun w' hw => ?y5⟩) hS ?_
  case y5 =>
    clear hS
    obtain ⟨hw0, hw1, hw2, hw3, hw4, hw5, hw6, hw7⟩ := hw
    go_simp
  try simp only [Act.put, List.getElem_toArray, List.getElem_cons_zero, List.getElem_cons_succ, List.setIfInBounds_toArray, List.set_cons_zero, List.set_cons_succ]
  refine wpAnyH_take (i := 6) (v := .pointer (some ⟨bc, oc + m * 5, none⟩)) rfl (by kernel_rfl) (by kernel_rfl) (by kernel_rfl) (fun _ _ _ h => h) (Or.inl ⟨by kernel_rfl, fun w' hw => ?y6⟩) hS ?_
  case y6 =>
    clear hS
    have hw2 := hw
    go_simp
  try simp only [Act.put, List.getElem_toArray, List.getElem_cons_zero, List.getElem_cons_succ, List.setIfInBounds_toArray, List.set_cons_zero, List.set_cons_succ]
  refine wpAnyH_take (i := 7) (v := .agg #[.int .i64 x.mv, .int .i64 x.th, .int .i64 x.slot, .int .i64 x.fr, .int .i64 x.to]) rfl (by kernel_rfl) (by kernel_rfl) (by kernel_rfl) (fun _ _ _ h => h) (Or.inl ⟨by kernel_rfl, fun w' hw => ?y7⟩) hS ?_
  case y7 =>
    clear hS
    obtain ⟨hw0, hw1, hw2, hw3, hw4, hw5, hw6, hw7⟩ := hw
    go_simp
  try simp only [Act.put, List.getElem_toArray, List.getElem_cons_zero, List.getElem_cons_succ, List.setIfInBounds_toArray, List.set_cons_zero, List.set_cons_succ]
  refine wpAnyH_ready (rs := [8]) (by kernel_rfl) (by simp) ?_
  refine AllReadyH.cons rfl (fun K hK => ?_) AllReadyH.nil
  try simp only [Act.put, List.getElem_toArray, List.getElem_cons_zero, List.getElem_cons_succ, List.setIfInBounds_toArray, List.set_cons_zero, List.set_cons_succ]
  go_simp
  (go_at_call 80; refine (TN.out _ ((Below.refl _ _).drew)).mono ?_; rintro e6 w6 ⟨rfl, hS6, hF6⟩; replace hS6 := Mr.hid hS6; have hF7 : Fr wa w6 (fun k => k = bs ∨ k = g1 ∨ k = g2) := ((Fr.refl wa _).drew).trans (hF6.mono (fun k hk => .inl hk)))
  try (go_wp2_with fail)
  refine hK.out _ _ (KK.out _ hF7) (fun hS => ?_)
  clear hK K
  try simp only [Act.put, List.getElem_toArray, List.getElem_cons_zero, List.getElem_cons_succ, List.setIfInBounds_toArray, List.set_cons_zero, List.set_cons_succ]
  refine wpAnyH_done (by kernel_rfl) ?_ _
  have F7 := Mr.hid (F.out.trans (hF7.mono (fun k hk => .inl hk)))
  clear hF6 hF7 KK hS TN a0 t10 b0 b1 b2 b3 x0 x1 x2 x3 x4
  go_wp2
  go_ret
  exact ⟨rfl, hS6.out, F7.out⟩
end Go.Proofs.YtpknggcgojkjgaaGreat.Cn
/-
  CENSUS: the finder's watch over a beginning and one shift that may not be.
-/
namespace Go.Proofs.YtpknggcgojkjgaaGreat.Cn
open Go.RowKit Mr Md
set_option linter.unusedVariables false
set_option linter.unusedSimpArgs false
set_option maxRecDepth 100000
def Fs (bf bs g1 g2 : Nat) (k : Nat) : Prop := k = bf ∨ k = bs ∨ k = g1 ∨ k = g2
/-- The finder in the world, with all that its monitors reach. -/
structure Fw (w : World) (T : Nat → Prop) (K : Fc) (bf n g1 g2 ba bt : Nat) (sh : List Sx) (s : Fg) (k : Sk) : Prop where
  box : Box w bf 276 (ff K s)
  sl : Sw w n K.bs g1 g2 k
  ok : k.Ok n
  sx : Sl w T 5 K.v2 sh.length (sxs sh)
  all : w.cell? ⟨ba, 0, none⟩ = some (.pointer (some ⟨K.bs, 0, none⟩))
  st : w.cell? ⟨bt, 10, none⟩ = some K.v2
  al : ba < w.heap.size
  tl : bt < w.heap.size
  nT : ∀ k, T k → ¬ Fs bf K.bs g1 g2 k
  nA : ¬ Fs bf K.bs g1 g2 ba
  nB : ¬ Fs bf K.bs g1 g2 bt
  d1 : bf ≠ K.bs
  d2 : bf ≠ g1
  d3 : bf ≠ g2
section
variable {w w' : World} {T : Nat → Prop} {K : Fc} {bf n g1 g2 ba bt : Nat} {sh : List Sx} {s : Fg} {k : Sk}
theorem Fw.below (h : Fw w T K bf n g1 g2 ba bt sh s k) (hB : Below w.heap.size w w') : Fw w' T K bf n g1 g2 ba bt sh s k :=
  ⟨h.box.below hB, h.sl.below hB, h.ok, h.sx.below hB, (hB.cell (p := ⟨ba, 0, none⟩) h.al).trans h.all, (hB.cell (p := ⟨bt, 10, none⟩) h.tl).trans h.st, Nat.lt_of_lt_of_le h.al hB.size, Nat.lt_of_lt_of_le h.tl hB.size, h.nT, h.nA, h.nB, h.d1, h.d2, h.d3⟩
theorem Fw.step (h : Fw w T K bf n g1 g2 ba bt sh s k) (hF : Fr w w' (Fs bf K.bs g1 g2)) {s' : Fg} {k' : Sk} (hb : Box w' bf 276 (ff K s')) (hs : Sw w' n K.bs g1 g2 k') (ho : k'.Ok n) : Fw w' T K bf n g1 g2 ba bt sh s' k' :=
  ⟨hb, hs, ho, h.sx.fr hF (fun k hk _ => h.nT k hk), (frc hF h.al h.nA 0).trans h.all, (frc hF h.tl h.nB 10).trans h.st, Nat.lt_of_lt_of_le h.al hF.size, Nat.lt_of_lt_of_le h.tl hF.size, h.nT, h.nA, h.nB, h.d1, h.d2, h.d3⟩
theorem Fw.lt (h : Fw w T K bf n g1 g2 ba bt sh s k) : ∀ j, Fs bf K.bs g1 g2 j → j < w.heap.size := by
  rintro j (rfl | rfl | rfl | rfl)
  · exact h.box.lt
  · exact h.sl.box.lt
  · exact h.sl.r1.lt
  · exact h.sl.r2.lt
theorem Fw.slF (h : Fw w T K bf n g1 g2 ba bt sh s k) (hF : Fr w w' (fun k => k = bf)) : Sw w' n K.bs g1 g2 k :=
  h.sl.fr hF (fun e => h.d1 e.symm) (fun e => h.d2 e.symm) (fun e => h.d3 e.symm)
theorem fs_f (h : Fr w w' (fun k => k = bf)) : Fr w w' (Fs bf K.bs g1 g2) := h.mono (fun _ e => .inl e)
theorem fs_s (h : Fr w w' (fun k => k = K.bs ∨ k = g1 ∨ k = g2)) : Fr w w' (Fs bf K.bs g1 g2) := h.mono (fun _ e => .inr e)
end
/-- The finder with these faults. -/
def Fi (T : Nat → Prop) (K : Fc) (bf n g1 g2 ba bt : Nat) (sh : List Sx) (w : World) (l : List Fl) : Prop :=
  ∃ s k, Fw w T K bf n g1 g2 ba bt sh s k ∧ s.tch.kd = 0 ∧ Own w (fun j => ¬ Fs bf K.bs g1 g2 j) 74 3 s.fv l.length (fls l) ∧ (l = [] → s.fv = .slice none 0 0)
section
variable {w w' : World} {T T' : Nat → Prop} {K : Fc} {bf n g1 g2 ba bt : Nat} {sh : List Sx} {l : List Fl}
theorem Fi.below (h : Fi T K bf n g1 g2 ba bt sh w l) (hB : Below w.heap.size w w') : Fi T K bf n g1 g2 ba bt sh w' l := by
  obtain ⟨s, k, h1, h2, h3, h4⟩ := h
  exact ⟨s, k, h1.below hB, h2, h3.below hB, h4⟩
theorem Fi.lt (h : Fi T K bf n g1 g2 ba bt sh w l) : ∀ j, Fs bf K.bs g1 g2 j → j < w.heap.size := by
  obtain ⟨s, k, h1, h2, h3, h4⟩ := h
  exact h1.lt
theorem fopn_row {v0 v1 v2 v3 v4 v5 : Value} (h : Fi T K bf n g1 g2 ba bt sh w l) (hr : Frow w T' v0 [jfv 66 bf]) (hT' : ∀ j, T' j → ¬ Fs bf K.bs g1 g2 j) (e : Ev) :
    Calls Tryz.prog 81 #[tabV v0 v1 v2 v3 v4 v5, (opn e).val] w fun r w' => r = .returned (.bool true) ∧ Fi T K bf n g1 g2 ba bt sh w' l ∧ Fr w w' (Fs bf K.bs g1 g2) := by
  have := tell_any (k := 0) (e := opn e) (v0 := v0) (v1 := v1) (v2 := v2) (v3 := v3) (v4 := v4) (v5 := v5) rfl (by omega) (by simp) hr h.lt hT' (fun _ => true) (fun i w => Fi T K bf n g1 g2 ba bt sh w l) (fun i w1 w2 hJ hB => Fi.below hJ hB)
    (by
      rintro (_ | i) f hf
      · simp at hf; subst hf; exact enters_of Tryz.func66 (by kernel_rfl) rfl
      · simp at hf)
    (by
      rintro (_ | i) f hf ha w1 hJ hF
      · simp at hf; subst hf
        rw [jargs]
        obtain ⟨s, k, h1, h2, h3, h4⟩ := hJ
        obtain ⟨a, cap, hv, _, _⟩ := h3.form
        refine (fopen_any h1.box hv _).mono ?_
        rintro r w2 ⟨rfl, hb, hf⟩
        exact ⟨rfl, ⟨_, k, h1.step (fs_f hf) hb (h1.slF hf) h1.ok, rfl, h3.fr (fs_f hf) (fun k hk _ => hk), h4⟩, fs_f hf⟩
      · simp at hf) h
  exact this
theorem fcls_row {v0 v1 v2 v3 v4 v5 : Value} (h : Fi T K bf n g1 g2 ba bt sh w l) (hr : Frow w T' v5 [jfv 72 bf]) (hT' : ∀ j, T' j → ¬ Fs bf K.bs g1 g2 j) (e : Ev) :
    Calls Tryz.prog 81 #[tabV v0 v1 v2 v3 v4 v5, (cls e).val] w fun r w' => r = .returned (.bool true) ∧ Fi T K bf n g1 g2 ba bt sh w' l ∧ Fr w w' (Fs bf K.bs g1 g2) := by
  have := tell_any (k := 5) (e := cls e) (v0 := v0) (v1 := v1) (v2 := v2) (v3 := v3) (v4 := v4) (v5 := v5) rfl (by omega) (by simp) hr h.lt hT' (fun _ => true) (fun i w => Fi T K bf n g1 g2 ba bt sh w l) (fun i w1 w2 hJ hB => Fi.below hJ hB)
    (by
      rintro (_ | i) f hf
      · simp at hf; subst hf; exact enters_of Tryz.func72 (by kernel_rfl) rfl
      · simp at hf)
    (by
      rintro (_ | i) f hf ha w1 hJ hF
      · simp at hf; subst hf
        rw [jargs]
        obtain ⟨s, k, h1, h2, h3, h4⟩ := hJ
        refine (fclose_any h1.box h2 _).mono ?_
        rintro r w2 ⟨rfl, hb, hf⟩
        exact ⟨rfl, ⟨s, k, h1.step (fs_f hf) hb (h1.slF hf) h1.ok, h2, h3.fr (fs_f hf) (fun k hk _ => hk), h4⟩, fs_f hf⟩
      · simp at hf) h
  exact this
/-- A kind that nobody looks at. -/
theorem fnil_row {v0 v2 v3 v4 v5 : Value} (h : Fi T K bf n g1 g2 ba bt sh w l) (e : Ev) (hk : e.kd = 1) :
    Calls Tryz.prog 81 #[tabV v0 (.slice none 0 0) v2 v3 v4 v5, e.val] w fun r w' => r = .returned (.bool true) ∧ Fi T K bf n g1 g2 ba bt sh w' l ∧ Fr w w' (Fs bf K.bs g1 g2) := by
  have hr : Frow w (fun _ => False) (.slice none 0 0) [] := ⟨rfl, _, _, rfl, Nat.le_refl _, .inl rfl⟩
  have := tell_any (T := fun _ => False) (fs := []) (k := 1) (e := e) (v0 := v0) (v1 := .slice none 0 0) (v2 := v2) (v3 := v3) (v4 := v4) (v5 := v5) hk (by omega) (by simp) hr h.lt (fun _ h => h.elim) (fun _ => true) (fun i w => Fi T K bf n g1 g2 ba bt sh w l) (fun i w1 w2 hJ hB => Fi.below hJ hB)
    (by rintro i f hf; simp at hf) (by rintro i f hf; simp at hf) h
  exact this
def tfv (ba bt : Nat) : Fv := ⟨79, #[], #[.pointer (some ⟨ba, 0, none⟩), .pointer (some ⟨bt, 0, none⟩)]⟩
theorem fshf_row {v0 v1 v2 v3 v4 v5 : Value} (h : Fi T K bf n g1 g2 ba bt sh w []) (hr : Frow w T' v3 [jfv 69 bf, jfv 70 bf, jfv 71 bf, tfv ba bt]) (hT' : ∀ j, T' j → ¬ Fs bf K.bs g1 g2 j) (e : Ev) (hk : e.kd = 3) (m : Nat) (x : Sx) (hm : e.nb = (m : Int)) (hx : sh[m]? = some x) (hfr : x.fr = 0) (hto : x.to = 3) (hxs : 0 ≤ x.slot ∧ x.slot < (n : Int)) (hth : 0 ≤ x.th ∧ x.th < 16) :
    Calls Tryz.prog 81 #[tabV v0 v1 v2 v3 v4 v5, e.val] w fun r w' => r = .returned (.bool true) ∧ Fi T K bf n g1 g2 ba bt sh w' [⟨3, x.mv, x.slot⟩] ∧ Fr w w' (Fs bf K.bs g1 g2) := by
  have := tell_any (k := 3) (e := e) (v0 := v0) (v1 := v1) (v2 := v2) (v3 := v3) (v4 := v4) (v5 := v5) hk (by omega) (by simp) hr h.lt hT' (fun _ => true) (fun i w => Fi T K bf n g1 g2 ba bt sh w (if i = 0 then [] else [⟨3, x.mv, x.slot⟩])) (fun i w1 w2 hJ hB => Fi.below hJ hB)
    (by
      rintro (_ | _ | _ | _ | i) f hf
      · simp at hf; subst hf; exact enters_of Tryz.func69 (by kernel_rfl) rfl
      · simp at hf; subst hf; exact enters_of Tryz.func70 (by kernel_rfl) rfl
      · simp at hf; subst hf; exact enters_of Tryz.func71 (by kernel_rfl) rfl
      · simp at hf; subst hf; exact enters_of Tryz.func79 (by kernel_rfl) rfl
      · simp at hf)
    (by
      rintro (_ | _ | _ | _ | i) f hf ha w1 hJ hF
      · simp at hf; subst hf
        rw [jargs]
        obtain ⟨s, k, h1, h2, h3, h4⟩ := hJ
        have hfv := h4 rfl
        refine (fchange_no (l := []) (Sf := fun _ => False) h1.box h1.sx (by rw [hfv]; exact Own.zero _ _ _ _ _) (fun _ h => h.elim) (fun _ h => h.elim) (by simp) e m hm x hx hfr hto).mono ?_
        rintro r w2 ⟨rfl, fv', hb, ho, hf⟩
        have hf' : Fr w1 w2 (fun k => k = bf) := hf.mono (fun k hk => hk.elim id (fun h => h.elim))
        refine ⟨rfl, ⟨_, k, h1.step (fs_f hf') hb (h1.slF hf') h1.ok, h2, ho.mono (fun j hj hs => ?_), fun e => by simp at e⟩, fs_f hf'⟩
        have := h1.lt j hs
        rcases hj with hj | hj
        · exact hj
        · omega
      · simp at hf; subst hf
        rw [jargs]
        obtain ⟨s, k, h1, h2, h3, h4⟩ := hJ
        refine (fgive_any h1.box h1.sx e m hm x hx (by omega)).mono ?_
        rintro r w2 ⟨rfl, hb, hf⟩
        exact ⟨rfl, ⟨s, k, h1.step (fs_f hf) hb (h1.slF hf) h1.ok, h2, h3.fr (fs_f hf) (fun k hk _ => hk), h4⟩, fs_f hf⟩
      · simp at hf; subst hf
        rw [jargs]
        obtain ⟨s, k, h1, h2, h3, h4⟩ := hJ
        refine (fleave_any h1.box h1.sx e m hm x hx (by omega)).mono ?_
        rintro r w2 ⟨rfl, hb, hf⟩
        exact ⟨rfl, ⟨s, k, h1.step (fs_f hf) hb (h1.slF hf) h1.ok, h2, h3.fr (fs_f hf) (fun k hk _ => hk), h4⟩, fs_f hf⟩
      · simp at hf; subst hf
        obtain ⟨s, k, h1, h2, h3, h4⟩ := hJ
        refine (turning_any (T := T) h1.sl h1.ok h1.all h1.al (fun h => h1.nA (.inr h)) h1.st h1.tl (fun h => h1.nB (.inr h)) h1.sx (fun k hk h => h1.nT k hk (.inr h)) e m hm x hx hxs (by omega) hth).mono ?_
        rintro r w2 ⟨rfl, hs, hf⟩
        exact ⟨rfl, ⟨s, _, h1.step (fs_s hf) (h1.box.fr hf (fun h => h.elim h1.d1 (fun h => h.elim h1.d2 h1.d3))) hs (turn_ok h1.ok (by omega) hth), h2, h3.fr (fs_s hf) (fun k hk _ => hk), h4⟩, fs_s hf⟩
      · simp at hf) h
  exact this
def fm (x : Sx) : Nat → List Fl → Ev → List Fl × Bool
  | 3, l, _ => (l ++ [⟨3, x.mv, x.slot⟩], true)
  | _, l, _ => (l, true)
def Fj (T : Nat → Prop) (K : Fc) (bf n g1 g2 ba bt : Nat) (sh : List Sx) (i : Nat) (l : List Fl) (w : World) : Prop := Fi T K bf n g1 g2 ba bt sh w l ∧ (i ≤ 1 → l = [])
theorem fm_round (x : Sx) (f g : Bool) (l : List Fl) (e : Ev) (k : Nat) (hk : e.kd.toNat = k) (hk5 : k = 1 ∨ k = 3) : roundM (fm x) f g l e = (if k = 3 then l ++ [⟨3, x.mv, x.slot⟩] else l, true) := by
  unfold roundM
  rcases hk5 with rfl | rfl <;> cases f <;> cases g <;> simp [hk, fm]
theorem fwatch {Te : Nat → Prop} {v0 v2 v3 v4 v5 ev : Value} {x : Sx} {e1 e2 : Ev} (h : Fi T K bf n g1 g2 ba bt [x] w []) (r0 : Frow w T' v0 [jfv 66 bf]) (r3 : Frow w T' v3 [jfv 69 bf, jfv 70 bf, jfv 71 bf, tfv ba bt]) (r5 : Frow w T' v5 [jfv 72 bf]) (hT' : ∀ j, T' j → ¬ Fs bf K.bs g1 g2 j)
    (hev : Sl w Te 4 ev 2 (evs [e1, e2])) (hTe : ∀ j, Te j → ¬ Fs bf K.bs g1 g2 j) (h1 : e1.kd = 1) (h2 : e2.kd = 3) (hn : e2.nb = ((0 : Nat) : Int)) (hfr : x.fr = 0) (hto : x.to = 3) (hxs : 0 ≤ x.slot ∧ x.slot < (n : Int)) (hth : 0 ≤ x.th ∧ x.th < 16) :
    Calls Tryz.prog 46 #[tabV v0 (.slice none 0 0) v2 v3 v4 v5, ev] w fun r w' => r = .returned (.bool true) ∧ Fi T K bf n g1 g2 ba bt [x] w' [⟨3, x.mv, x.slot⟩] ∧ Fr w w' (Fs bf K.bs g1 g2) := by
  have rows : ∀ w1, Fr w w1 (Fs bf K.bs g1 g2) → ∀ {v : Value} {fs : List Fv}, Frow w T' v fs → Frow w1 T' v fs := fun w1 hf v fs hr => Sl.fr hr hf (fun k hk _ => hT' k hk)
  refine (watch_any (σ := List Fl) (S := Fs bf K.bs g1 g2) (es := [e1, e2]) hev (by simp) h.lt hTe (Fj T K bf n g1 g2 ba bt [x]) (fun i s w1 w2 hi hB => ⟨hi.1.below hB, hi.2⟩) (fm x) ?_ ?_ ?_ [] ⟨h, fun _ => rfl⟩).mono ?_
  · intro i e he s w1 hi hf
    refine (fopn_row hi.1 (rows w1 hf r0) hT' e).mono ?_
    rintro r w2 ⟨rfl, hJ, hF⟩
    exact ⟨rfl, ⟨hJ, hi.2⟩, hF⟩
  · rintro (_ | _ | i) e he s w1 hi hf
    · simp at he; subst he
      refine (fnil_row hi.1 e1 h1).mono ?_
      rintro r w2 ⟨rfl, hJ, hF⟩
      rw [h1]
      exact ⟨rfl, ⟨hJ, fun _ => hi.2 (by omega)⟩, hF⟩
    · simp at he; subst he
      obtain rfl := hi.2 (by omega)
      refine (fshf_row hi.1 (rows w1 hf r3) hT' e2 h2 0 x hn rfl hfr hto hxs hth).mono ?_
      rintro r w2 ⟨rfl, hJ, hF⟩
      rw [h2]
      exact ⟨rfl, ⟨hJ, fun h => by omega⟩, hF⟩
    · simp at he
  · intro i e he s w1 hi hf
    refine (fcls_row hi.1 (rows w1 hf r5) hT' e).mono ?_
    rintro r w2 ⟨rfl, hJ, hF⟩
    exact ⟨rfl, ⟨hJ, hi.2⟩, hF⟩
  · rintro r w' ⟨rfl, ⟨j, _, hJ⟩, hF⟩
    have hw : watchN (fm x) [e1, e2] [] [e1, e2].length = ([⟨3, x.mv, x.slot⟩], true) := by
      have q0 : evAt [e1, e2] 0 = e1 := rfl
      have q1 : evAt [e1, e2] 1 = e2 := rfl
      have w0 : watchN (fm x) [e1, e2] [] 0 = ([], true) := rfl
      have w1 : watchN (fm x) [e1, e2] [] 1 = ([], true) := by
        rw [watchN, w0, if_neg (by simp), q0, fm_round x _ _ _ _ 1 (by rw [h1]; rfl) (.inl rfl)]; rfl
      show watchN (fm x) [e1, e2] [] 2 = _
      rw [watchN, w1, if_neg (by simp), q1, fm_round x _ _ _ _ 3 (by rw [h2]; rfl) (.inr rfl)]; rfl
    rw [hw] at hJ ⊢
    exact ⟨rfl, hJ.1, hF⟩
end
end Go.Proofs.YtpknggcgojkjgaaGreat.Cn
