import Derived.Test.YtpknggcgojkjgaaGreatJ27
import Derived.Test.YtpknggcgojkjgaaGreatJ23
import Derived.Test.YtpknggcgojkjgaaGreatJ29
import Derived.Test.YtpknggcgojkjgaaGreatJ15
import Derived.Deep.WholeRow
import Derived.Test.YtpknggcgojkjgaaGreatJ21
/-
  CENSUS: Faults, of a run with a beginning and one shift that may not be.
-/
namespace Go.Proofs.YtpknggcgojkjgaaGreat.Cn
open Go.RowKit Mr Md
set_option linter.unusedVariables false
set_option linter.unusedSimpArgs false
set_option maxRecDepth 100000
set_option maxHeartbeats 8000000 in
theorem turnmk_any (c : Nat → Int) (used : Int) (V0 V1 V2 V3 ev : Value) (bs : Nat) (W : World) :
    Calls Tryz.prog 45 #[stV c used V0 V1 V2 V3 ev, .pointer (some ⟨bs, 0, none⟩)] W fun r w' => Below W.heap.size W w' ∧ ∃ ba bt, r = .returned (tfv ba bt).val ∧ W.heap.size ≤ ba ∧ W.heap.size ≤ bt ∧ ba < w'.heap.size ∧ bt < w'.heap.size ∧ w'.cell? ⟨ba, 0, none⟩ = some (.pointer (some ⟨bs, 0, none⟩)) ∧ w'.cell? ⟨bt, 10, none⟩ = some V2 := by
  unfold stV
  have hB : Hid (Below W.heap.size W ((W.alloc (stO c used V0 V1 V2 V3 ev)).alloc (.cells #[.pointer (some ⟨bs, 0, none⟩)] 81 (0, 0)))) := ((Below.refl _ W).alloc (Nat.le_refl _) _).alloc (by simp) _
  have h0 : Hid (((W.alloc (stO c used V0 V1 V2 V3 ev)).alloc (.cells #[.pointer (some ⟨bs, 0, none⟩)] 81 (0, 0))).heap[W.heap.size]? = some (stO c used V0 V1 V2 V3 ev)) := old_at (new_at _ _ _ rfl) _
  have h1 : Hid (((W.alloc (stO c used V0 V1 V2 V3 ev)).alloc (.cells #[.pointer (some ⟨bs, 0, none⟩)] 81 (0, 0))).heap[W.heap.size + 1]? = some (.cells #[.pointer (some ⟨bs, 0, none⟩)] 81 (0, 0))) := new_at _ _ _ (by simp)
  unfold stO at hB h0 h1
  go_enter Tryz.func45, Tryz.ntmps45
  go_wp2
  go_ret
  refine ⟨hB.out, W.heap.size + 1, W.heap.size, rfl, by omega, by omega, (Array.getElem?_eq_some_iff.1 h1.out).1, (Array.getElem?_eq_some_iff.1 h0.out).1, cell_blk h1.out 0, (stO_cells (c := c) (used := used) (V0 := V0) (V1 := V1) (V2 := V2) (V3 := V3) (ev := ev) h0.out).c10⟩
/-- What a finder begins with. -/
def fg0 : Fg := ⟨fun k => if k % 2 = 0 then .int .u64 0 else .int .i64 0, ⟨0, 0, 0⟩, 0, .slice none 0 0⟩
def fA (K : Fc) : Array Value := ((List.range 276).map (ff K fg0)).toArray
def P4 (B n used : Nat) (i : Nat) (v : Value) (w : World) : Prop :=
  if i = 3 then (∃ bs g1 g2, v = .pointer (some ⟨bs, 0, none⟩) ∧ Sw w n bs g1 g2 (sk0 n used) ∧ B ≤ bs ∧ B ≤ g1 ∧ B ≤ g2) else if i = 4 then (∃ g, v = .slice (some ⟨g, 0, none⟩) 1 1 ∧ w.heap[g]? = some (.cells #[.int .i64 (-1)] 3 (0, 0))) else ∃ a, v = .slice a n n
theorem P4.below {B n used i : Nat} {v : Value} {w w' : World} (h : P4 B n used i v w) (hB : Below w.heap.size w w') : P4 B n used i v w' := by
  unfold P4 at *
  by_cases e3 : i = 3
  · rw [if_pos e3] at h ⊢
    obtain ⟨bs, g1, g2, h1, h2, h3⟩ := h
    exact ⟨bs, g1, g2, h1, h2.below hB, h3⟩
  · rw [if_neg e3] at h ⊢
    by_cases e4 : i = 4
    · rw [if_pos e4] at h ⊢
      obtain ⟨g, h1, h2⟩ := h
      exact ⟨g, h1, (hB.block g (Array.getElem?_eq_some_iff.1 h2).1).trans h2⟩
    · rw [if_neg e4] at h ⊢
      exact h
theorem P4.new (B n used : Nat) (w : World) : P4 B n used 4 (.slice (some ⟨w.heap.size, 0, none⟩) 1 1) (w.alloc (.cells #[.int .i64 (-1)] 3 (0, 0))) := by
  unfold P4
  rw [if_neg (by decide), if_pos rfl]
  exact ⟨_, rfl, new_at _ _ _ rfl⟩
def frows (bf : Nat) : Nat → List Fv
  | 2 => [jfv 66 bf]
  | 7 => [jfv 67 bf, jfv 68 bf]
  | _ => [jfv 72 bf]
def TAt (B bs : Nat) (V2 : Value) (ba bt : Nat) (w : World) : Prop := B ≤ ba ∧ B ≤ bt ∧ ba < w.heap.size ∧ bt < w.heap.size ∧ w.cell? ⟨ba, 0, none⟩ = some (.pointer (some ⟨bs, 0, none⟩)) ∧ w.cell? ⟨bt, 10, none⟩ = some V2
theorem TAt.below {B bs : Nat} {V2 : Value} {ba bt : Nat} {w w' : World} (h : TAt B bs V2 ba bt w) (hB : Below w.heap.size w w') : TAt B bs V2 ba bt w' := by
  obtain ⟨h1, h2, h3, h4, h5, h6⟩ := h
  exact ⟨h1, h2, Nat.lt_of_lt_of_le h3 hB.size, Nat.lt_of_lt_of_le h4 hB.size, (hB.cell (p := ⟨ba, 0, none⟩) h3).trans h5, (hB.cell (p := ⟨bt, 10, none⟩) h4).trans h6⟩
def srow (bf ba bt : Nat) : List Fv := [jfv 69 bf, jfv 70 bf, jfv 71 bf, tfv ba bt]
def P5 (B bf bs : Nat) (V2 : Value) (i : Nat) (v : Value) (w : World) : Prop :=
  if i = 19 then (∃ ba bt, v = (tfv ba bt).val ∧ TAt B bs V2 ba bt w) else if i = 20 then (∃ ba bt, Nf B (srow bf ba bt) v w ∧ TAt B bs V2 ba bt w) else Nf B (frows bf i) v w
theorem P5.below {B bf bs i : Nat} {V2 v : Value} {w w' : World} (h : P5 B bf bs V2 i v w) (hB : Below w.heap.size w w') : P5 B bf bs V2 i v w' := by
  unfold P5 at *
  by_cases e3 : i = 19
  · rw [if_pos e3] at h ⊢
    obtain ⟨ba, bt, h1, h2⟩ := h
    exact ⟨ba, bt, h1, h2.below hB⟩
  · rw [if_neg e3] at h ⊢
    by_cases e4 : i = 20
    · rw [if_pos e4] at h ⊢
      obtain ⟨ba, bt, h1, h2⟩ := h
      exact ⟨ba, bt, h1.below hB, h2.below hB⟩
    · rw [if_neg e4] at h ⊢
      exact h.below hB
theorem P5.new (i : Nat) (h1 : i ≠ 19) (h2 : i ≠ 20) {B bf bs : Nat} {V2 : Value} {w : World} (hsz : B ≤ w.heap.size) : P5 B bf bs V2 i (.slice (some ⟨w.heap.size, 0, none⟩) (frows bf i).length (frows bf i).length) (w.alloc (.cells ((frows bf i).map Fv.val).toArray 88 (0, 0))) := by
  unfold P5
  rw [if_neg h1, if_neg h2]
  exact Nf.new B (frows bf i) w _ hsz rfl
theorem P5.new20 {B bf bs : Nat} {V2 : Value} {w : World} {ba bt : Nat} (h : TAt B bs V2 ba bt w) (hsz : B ≤ w.heap.size) : P5 B bf bs V2 20 (.slice (some ⟨w.heap.size, 0, none⟩) (srow bf ba bt).length (srow bf ba bt).length) (w.alloc (.cells ((srow bf ba bt).map Fv.val).toArray 88 (0, 0))) := by
  unfold P5
  rw [if_neg (by decide), if_pos rfl]
  exact ⟨ba, bt, Nf.new B (srow bf ba bt) w _ hsz rfl, h.below ((Below.refl _ _).alloc (Nat.le_refl _) _)⟩
def S5 (wd : World) (bf bs g1 g2 : Nat) (w' : World) : Prop := Fr wd w' (Fs bf bs g1 g2) ∧ w'.cell? ⟨bf, 13, none⟩ = some (.pointer (some ⟨bs, 0, none⟩))
theorem S5.of {wd w' : World} {bf bs g1 g2 : Nat} (hB : Below wd.heap.size wd w') (hl : bf < wd.heap.size) (hc : wd.cell? ⟨bf, 13, none⟩ = some (.pointer (some ⟨bs, 0, none⟩))) : S5 wd bf bs g1 g2 w' := ⟨Fr.of_below hB, (hB.cell (p := ⟨bf, 13, none⟩) hl).trans hc⟩
set_option maxHeartbeats 32000000 in
theorem faults_no {W : World} {T : Nat → Prop} {c : Nat → Int} {n used : Nat} {V0 V1 V2 V3 : Value} {cs : List Cq} {tr : List Ax} {x : Sx} {wl : List Int} (hr : RunAt W T V0 V1 V2 V3 cs tr [x] wl) (hc5 : c 5 = (n : Int)) (hn1 : 1 ≤ n) (hn : n ≤ 1024) (hu : used ≤ n)
    (RD : ∀ w, RunAt w T V0 V1 V2 V3 cs tr [x] wl → Calls Tryz.prog 42 #[cfgV c, .int .i64 (used : Int), rnV V0 V1 V2 V3] w fun r w' => Below w.heap.size w w' ∧ ∃ (ev : Value) (es : List Ev), r = .returned (.tuple #[stV c used V0 V1 V2 V3 ev, .int .i64 0]) ∧ es.Perm (evA cs tr [x]) ∧ es.Pairwise (fun a b => ¬ Ev.lt b a) ∧ Sl w' (fun k => w.heap.size ≤ k) 4 ev es.length (evs es))
    (hE : ∀ es : List Ev, es.Perm (evA cs tr [x]) → es.Pairwise (fun a b => ¬ Ev.lt b a) → ∃ e1 e2, es = [e1, e2] ∧ e1.kd = 1 ∧ e2.kd = 3 ∧ e2.nb = ((0 : Nat) : Int)) (hfr : x.fr = 0) (hto : x.to = 3) (hxs : 0 ≤ x.slot ∧ x.slot < (n : Int)) (hth : 0 ≤ x.th ∧ x.th < 16) :
    Calls Tryz.prog 32 #[cfgV c, .int .i64 (used : Int), rnV V0 V1 V2 V3] W fun r w' => Below W.heap.size W w' ∧ ∃ fv, r = .returned (.tuple #[fv, .int .i64 0]) ∧ Own w' (fun _ => True) 74 3 fv 1 (fls [(⟨3, x.mv, x.slot⟩ : Fl)]) := by
  replace hfr := Mr.hid hfr
  replace hto := Mr.hid hto
  replace hxs := Mr.hid hxs
  replace hth := Mr.hid hth
  replace hc5 := Mr.hid hc5
  replace hE := Mr.hid hE
  replace RD := Mr.hid RD
  obtain ⟨a0, p0, rfl, _⟩ := hr.calls.form
  obtain ⟨a1, p1, rfl, _⟩ := hr.trace.form
  obtain ⟨a2, p2, rfl, _⟩ := hr.shifts.form
  obtain ⟨a3, p3, rfl, _⟩ := hr.words.form
  have R1 : Hid (Below W.heap.size W ((W.alloc (cfO c)).alloc (rnO (.slice a0 cs.length p0) (.slice a1 tr.length p1) (.slice a2 [x].length p2) (.slice a3 wl.length p3))) ∧ ((W.alloc (cfO c)).alloc (rnO (.slice a0 cs.length p0) (.slice a1 tr.length p1) (.slice a2 [x].length p2) (.slice a3 wl.length p3))).heap[W.heap.size]? = some (cfO c) ∧ ((W.alloc (cfO c)).alloc (rnO (.slice a0 cs.length p0) (.slice a1 tr.length p1) (.slice a2 [x].length p2) (.slice a3 wl.length p3))).heap[W.heap.size + 1]? = some (rnO (.slice a0 cs.length p0) (.slice a1 tr.length p1) (.slice a2 [x].length p2) (.slice a3 wl.length p3))) :=
    ⟨((Below.refl _ W).alloc (Nat.le_refl _) _).alloc (by simp) _, old_at (new_at _ _ _ rfl) _, new_at _ _ _ (by simp)⟩
  have RC := Mr.hid (RD.out _ (hr.below R1.out.1))
  have hrun := Mr.hid hr
  clear hr RD
  unfold cfO rnO at R1 RC
  unfold cfgV rnV at RC ⊢
  unfold stV at RC
  simp only [List.length_singleton] at RC R1 ⊢
  go_enter Tryz.func32, Tryz.ntmps32
  go_upto_region 1 with (fail)
  generalize ((W.alloc _).alloc _) = wa at *
  obtain ⟨B0, b0, b1⟩ := R1.out
  obtain ⟨k0, k1, k2, k3, k4, k5, k6, kl⟩ := cfO_cells (c := c) b0
  obtain ⟨j0, j1, j2, j3, jl⟩ := rnO_cells b1
  replace b0 := Mr.hid b0
  replace b1 := Mr.hid b1
  replace B0 := Mr.hid B0
  clear R1
  go_upto_region 2 with (go_at_call 42; refine RC.out.mono ?_; clear RC; rintro e wb ⟨hBb, ev, es, rfl, he1, he2, he3⟩; obtain ⟨e1, e2, rfl, hk1, hk2, hk3⟩ := hE.out _ he1 he2; obtain ⟨ua, uc, rfl, _⟩ := he3.form; replace he3 := Mr.hid he3; replace hBb := Mr.hid hBb; replace hk1 := Mr.hid hk1; replace hk2 := Mr.hid hk2; replace hk3 := Mr.hid hk3; clear he1 he2)
  go_upto_region 4 with (fail)
  have hB2 : Hid (Below wa.heap.size wa (wb.alloc (stO c used (.slice a0 cs.length p0) (.slice a1 tr.length p1) (.slice a2 1 p2) (.slice a3 wl.length p3) (.slice ua 2 uc)))) := hBb.out.alloc hBb.out.size _
  have s8 : Hid ((wb.alloc (stO c used (.slice a0 cs.length p0) (.slice a1 tr.length p1) (.slice a2 1 p2) (.slice a3 wl.length p3) (.slice ua 2 uc))).heap[wb.heap.size]? = some (stO c used (.slice a0 cs.length p0) (.slice a1 tr.length p1) (.slice a2 1 p2) (.slice a3 wl.length p3) (.slice ua 2 uc))) := new_at _ _ _ rfl
  have he4 : Hid (Sl (wb.alloc (stO c used (.slice a0 cs.length p0) (.slice a1 tr.length p1) (.slice a2 1 p2) (.slice a3 wl.length p3) (.slice ua 2 uc))) (fun k => wa.heap.size ≤ k ∧ k < wb.heap.size) 4 (.slice ua 2 uc) 2 (evs [e1, e2])) := (Sl.lt he3.out).below ((Below.refl _ _).alloc (Nat.le_refl _) _)
  have q8 : Hid (wa.heap.size ≤ wb.heap.size) := hBb.out.size
  clear he3 hBb
  unfold stO at hB2 s8 he4
  generalize (wb.alloc _) = wc at *
  generalize hb8 : wb.heap.size = b8 at *
  replace hb8 := Mr.hid hb8
  have kc := fun (k : Nat) => hB2.out.cell (p := ⟨W.heap.size, k, none⟩) kl
  replace k0 := (kc 0).trans k0
  replace k1 := (kc 1).trans k1
  replace k2 := (kc 2).trans k2
  replace k3 := (kc 3).trans k3
  replace k4 := (kc 4).trans k4
  replace k5 := (kc 5).trans k5
  replace k6 := (kc 6).trans k6
  replace kl := Nat.lt_of_lt_of_le kl hB2.out.size
  clear kc j0 j1 j2 j3 jl b0 b1
  obtain ⟨sl, s0, s1, s2, s3, s4, s5, s6, s7, s8', s9, s10, s11, s12⟩ := stO_cells (c := c) s8.out
  simp only [Nat.zero_add] at s1 s2 s3 s4 s5 s6 s7 s8' s9 s10 s11 s12
  have SO := Mr.hid (fun w => slotsOf_any c n used hc5.out hn hu w)
  have RP := Mr.hid (fun w g => repeat_any w g n hn1 hn)
  rw [← hc5.out] at RP
  unfold cfgV at SO
  have S0 : Below wc.heap.size wc wc.drew := (Below.refl _ _).drew
  refine wp_region_held_drew (S := fun w' => Below wc.heap.size wc w') (by kernel_rfl) S0 (fun hS => ?_)
  try simp only [Act.put, List.getElem_toArray, List.getElem_cons_zero, List.getElem_cons_succ, List.setIfInBounds_toArray, List.set_cons_zero, List.set_cons_succ]
  refine wpAnyH_take (i := 0) (v := .agg #[.int .i64 (c 0), .int .i64 (c 1), .int .i64 (c 2), .int .i64 (c 3), .int .i64 (c 4), .int .i64 (c 5), .int .i64 (c 6), .int .i64 (used : Int), .slice a0 cs.length p0, .slice a1 tr.length p1, .slice a2 1 p2, .slice a3 wl.length p3, .slice ua 2 uc]) rfl (by kernel_rfl) (by kernel_rfl) (by kernel_rfl) (fun _ _ _ h => h) (Or.inl ⟨by kernel_rfl, fun w' hw => ?y0⟩) hS ?_
  case y0 =>
    clear hS
    have z0 := (hw.cell (p := ⟨b8, 0, none⟩) sl).trans s0
    have z1 := (hw.cell (p := ⟨b8, 1, none⟩) sl).trans s1
    have z2 := (hw.cell (p := ⟨b8, 2, none⟩) sl).trans s2
    have z3 := (hw.cell (p := ⟨b8, 3, none⟩) sl).trans s3
    have z4 := (hw.cell (p := ⟨b8, 4, none⟩) sl).trans s4
    have z5 := (hw.cell (p := ⟨b8, 5, none⟩) sl).trans s5
    have z6 := (hw.cell (p := ⟨b8, 6, none⟩) sl).trans s6
    have z7 := (hw.cell (p := ⟨b8, 7, none⟩) sl).trans s7
    have z8 := (hw.cell (p := ⟨b8, 8, none⟩) sl).trans s8'
    have z9 := (hw.cell (p := ⟨b8, 9, none⟩) sl).trans s9
    have z10 := (hw.cell (p := ⟨b8, 10, none⟩) sl).trans s10
    have z11 := (hw.cell (p := ⟨b8, 11, none⟩) sl).trans s11
    have z12 := (hw.cell (p := ⟨b8, 12, none⟩) sl).trans s12
    clear hw
    go_simp
  try simp only [Act.put, List.getElem_toArray, List.getElem_cons_zero, List.getElem_cons_succ, List.setIfInBounds_toArray, List.set_cons_zero, List.set_cons_succ]
  refine wpAnyH_take (i := 1) (v := .agg #[.int .i64 (c 0), .int .i64 (c 1), .int .i64 (c 2), .int .i64 (c 3), .int .i64 (c 4), .int .i64 (c 5), .int .i64 (c 6)]) rfl (by kernel_rfl) (by kernel_rfl) (by kernel_rfl) (fun _ _ _ h => h) (Or.inl ⟨by kernel_rfl, fun w' hw => ?y1⟩) hS ?_
  case y1 =>
    clear hS
    have z0 := (hw.cell (p := ⟨W.heap.size, 0, none⟩) kl).trans k0
    have z1 := (hw.cell (p := ⟨W.heap.size, 1, none⟩) kl).trans k1
    have z2 := (hw.cell (p := ⟨W.heap.size, 2, none⟩) kl).trans k2
    have z3 := (hw.cell (p := ⟨W.heap.size, 3, none⟩) kl).trans k3
    have z4 := (hw.cell (p := ⟨W.heap.size, 4, none⟩) kl).trans k4
    have z5 := (hw.cell (p := ⟨W.heap.size, 5, none⟩) kl).trans k5
    have z6 := (hw.cell (p := ⟨W.heap.size, 6, none⟩) kl).trans k6
    clear hw
    go_simp
  try simp only [Act.put, List.getElem_toArray, List.getElem_cons_zero, List.getElem_cons_succ, List.setIfInBounds_toArray, List.set_cons_zero, List.set_cons_succ]
  refine wpAnyH_take (i := 2) (v := .int .i64 (used : Int)) rfl (by kernel_rfl) (by kernel_rfl) (by kernel_rfl) (fun _ _ _ h => h) (Or.inl ⟨by kernel_rfl, fun w' hw => ?y2⟩) hS ?_
  case y2 =>
    clear hS
    clear hw
    go_simp
  try simp only [Act.put, List.getElem_toArray, List.getElem_cons_zero, List.getElem_cons_succ, List.setIfInBounds_toArray, List.set_cons_zero, List.set_cons_succ]
  refine wpAnyH_take (i := 5) (v := .pointer (some ⟨W.heap.size, 5, none⟩)) rfl (by kernel_rfl) (by kernel_rfl) (by kernel_rfl) (fun _ _ _ h => h) (Or.inl ⟨by kernel_rfl, fun w' hw => ?y5⟩) hS ?_
  case y5 =>
    clear hS
    clear hw
    go_simp
  try simp only [Act.put, List.getElem_toArray, List.getElem_cons_zero, List.getElem_cons_succ, List.setIfInBounds_toArray, List.set_cons_zero, List.set_cons_succ]
  refine wpAnyH_take (i := 6) (v := .int .i64 (c 5)) rfl (by kernel_rfl) (by kernel_rfl) (by kernel_rfl) (fun _ _ _ h => h) (Or.inl ⟨by kernel_rfl, fun w' hw => ?y6⟩) hS ?_
  case y6 =>
    clear hS
    have z0 := (hw.cell (p := ⟨W.heap.size, 0, none⟩) kl).trans k0
    have z1 := (hw.cell (p := ⟨W.heap.size, 1, none⟩) kl).trans k1
    have z2 := (hw.cell (p := ⟨W.heap.size, 2, none⟩) kl).trans k2
    have z3 := (hw.cell (p := ⟨W.heap.size, 3, none⟩) kl).trans k3
    have z4 := (hw.cell (p := ⟨W.heap.size, 4, none⟩) kl).trans k4
    have z5 := (hw.cell (p := ⟨W.heap.size, 5, none⟩) kl).trans k5
    have z6 := (hw.cell (p := ⟨W.heap.size, 6, none⟩) kl).trans k6
    clear hw
    go_simp
  try simp only [Act.put, List.getElem_toArray, List.getElem_cons_zero, List.getElem_cons_succ, List.setIfInBounds_toArray, List.set_cons_zero, List.set_cons_succ]
  refine wpAnyH_floats2 (S := fun w' => Below wc.heap.size wc w') (al := [3, 4, 7]) (dep := fun i => if i = 7 then [4] else []) (fuel := 3) (by decide) (by kernel_rfl) (by kernel_rfl) (fun x => ⟨#[.agg #[.int .i64 (c 0), .int .i64 (c 1), .int .i64 (c 2), .int .i64 (c 3), .int .i64 (c 4), .int .i64 (c 5), .int .i64 (c 6)], .int .i64 (used : Int), .agg #[.slice a0 cs.length p0, .slice a1 tr.length p1, .slice a2 1 p2, .slice a3 wl.length p3], .pointer (some ⟨W.heap.size, 0, none⟩), undef, .pointer (some ⟨W.heap.size + 1, 0, none⟩), .slice none 0 0, .int .i64 0, .pointer (some ⟨b8, 0, none⟩), .int .i64 0, undef, .tuple #[.agg #[.int .i64 (c 0), .int .i64 (c 1), .int .i64 (c 2), .int .i64 (c 3), .int .i64 (c 4), .int .i64 (c 5), .int .i64 (c 6), .int .i64 (used : Int), .slice a0 cs.length p0, .slice a1 tr.length p1, .slice a2 1 p2, .slice a3 wl.length p3, .slice ua 2 uc], .int .i64 0], .agg #[.int .i64 (c 0), .int .i64 (c 1), .int .i64 (c 2), .int .i64 (c 3), .int .i64 (c 4), .int .i64 (c 5), .int .i64 (c 6)], .int .i64 (used : Int), .agg #[.slice a0 cs.length p0, .slice a1 tr.length p1, .slice a2 1 p2, .slice a3 wl.length p3], .tuple #[.agg #[.int .i64 (c 0), .int .i64 (c 1), .int .i64 (c 2), .int .i64 (c 3), .int .i64 (c 4), .int .i64 (c 5), .int .i64 (c 6), .int .i64 (used : Int), .slice a0 cs.length p0, .slice a1 tr.length p1, .slice a2 1 p2, .slice a3 wl.length p3, .slice ua 2 uc], .int .i64 0], .agg #[.int .i64 (c 0), .int .i64 (c 1), .int .i64 (c 2), .int .i64 (c 3), .int .i64 (c 4), .int .i64 (c 5), .int .i64 (c 6), .int .i64 (used : Int), .slice a0 cs.length p0, .slice a1 tr.length p1, .slice a2 1 p2, .slice a3 wl.length p3, .slice ua 2 uc], .int .i64 0, .int .i64 0, .bool false, undef, .agg #[.int .i64 (c 0), .int .i64 (c 1), .int .i64 (c 2), .int .i64 (c 3), .int .i64 (c 4), .int .i64 (c 5), .int .i64 (c 6), .int .i64 (used : Int), .slice a0 cs.length p0, .slice a1 tr.length p1, .slice a2 1 p2, .slice a3 wl.length p3, .slice ua 2 uc], .agg #[.int .i64 (c 0), .int .i64 (c 1), .int .i64 (c 2), .int .i64 (c 3), .int .i64 (c 4), .int .i64 (c 5), .int .i64 (c 6)], .int .i64 (used : Int), x 3, x 4, .pointer (some ⟨W.heap.size, 5, none⟩), .int .i64 (c 5), x 7, undef, undef, undef, undef, undef, undef, undef, undef, undef, undef, undef, undef, undef, undef, undef, undef, undef, undef, undef, undef, undef, undef, undef, undef, undef, undef, undef, undef, undef, undef, undef, undef, undef, undef], []⟩) (P4 wc.heap.size n used) (fun _ => True) (fun _ => undef) wc.drew hS trivial ?_ ?_
  · intro i hi xv d w hS _ hd hdp K hK
    have hkp : ∀ w2, Below w.heap.size w w2 → ∀ j ∈ d, P4 wc.heap.size n used j (xv j) w2 := fun w2 hB j hj => P4.below (hd j hj) hB
    replace hkp := Mr.hid hkp
    replace hK := Mr.hid hK
    replace hS := Mr.hid hS
    simp only [List.mem_cons, List.not_mem_nil, or_false] at hi
    rcases hi with rfl | rfl | rfl
    · clear hd
      refine wpOp_step rfl (fun K' hK' => ?_)
      replace hK' := Mr.hid hK'
      try simp only [Act.put, List.getElem_toArray, List.getElem_cons_zero, List.getElem_cons_succ, List.setIfInBounds_toArray, List.set_cons_zero, List.set_cons_succ]
      go_simp
      refine (SO.out w).mono ?_
      rintro e w2 ⟨hB2', bs, g1, g2, rfl, h1, h2, h3, h4⟩
      exact hK'.out _ _ (hK.out _ _ (hS.out.trans (hB2'.mono hS.out.size)) trivial (hkp.out _ hB2') (by unfold P4; rw [if_pos rfl]; exact ⟨bs, g1, g2, rfl, h1, Nat.le_trans hS.out.size h2, Nat.le_trans hS.out.size h3, Nat.le_trans hS.out.size h4⟩))
    · clear hd
      have hf := hK.out _ _ (hS.out.alloc hS.out.size _) trivial (hkp.out _ ((Below.refl _ _).alloc (Nat.le_refl _) _)) (P4.new wc.heap.size n used w)
      replace hf := Mr.hid hf
      refine wpOp_step rfl (fun K' hK' => ?_)
      replace hK' := Mr.hid hK'
      try simp only [Act.put, List.getElem_toArray, List.getElem_cons_zero, List.getElem_cons_succ, List.setIfInBounds_toArray, List.set_cons_zero, List.set_cons_succ]
      go_simp
      exact hK'.out _ _ hf.out
    · have h4 := hd 4 (hdp 4 (by simp))
      clear hd
      unfold P4 at h4
      rw [if_neg (by decide), if_pos rfl] at h4
      obtain ⟨g, e4, hg⟩ := h4
      have hf := fun u w2 hB2 => hK.out u w2 (hS.out.trans (Below.mono hB2 hS.out.size)) trivial (hkp.out _ hB2)
      have u4 : ∀ u, upd xv 7 u 4 = .slice (some ⟨g, 0, none⟩) 1 1 := fun u => by rw [upd_ne xv _ (by decide)]; exact e4
      have u3 : ∀ u, upd xv 7 u 3 = xv 3 := fun u => upd_ne xv _ (by decide)
      have u7 : ∀ u, upd xv 7 u 7 = u := fun u => upd_self _ _ _
      simp only [u4, u3, u7] at hf
      clear u4 u3 u7
      replace hf := Mr.hid hf
      replace hg := Mr.hid hg
      refine wpOp_step rfl (fun K' hK' => ?_)
      replace hK' := Mr.hid hK'
      simp only [e4]
      try simp only [Act.put, List.getElem_toArray, List.getElem_cons_zero, List.getElem_cons_succ, List.setIfInBounds_toArray, List.set_cons_zero, List.set_cons_succ]
      go_simp
      refine (RP.out w g hg.out).mono ?_
      rintro e w2 ⟨rfl, h1, hB2'⟩
      exact hK'.out _ _ (hf.out _ _ hB2' (by unfold P4; rw [if_neg (by decide), if_neg (by decide)]; exact ⟨_, rfl⟩))
  · intro xv w hS _ hΦ
    have h3 := hΦ 3 (by simp)
    have h4 := hΦ 4 (by simp)
    have h7 := hΦ 7 (by simp)
    unfold P4 at h3 h4 h7
    rw [if_pos rfl] at h3
    rw [if_neg (by decide), if_pos rfl] at h4
    rw [if_neg (by decide), if_neg (by decide)] at h7
    obtain ⟨bs, g1, g2, e3, hsw, hl1, hl2, hl3⟩ := h3
    obtain ⟨g, e4, hg⟩ := h4
    obtain ⟨la, e7⟩ := h7
    simp only [e3, e4, e7]
    clear hΦ e3 e4 e7 hg SO RP
    replace hsw := Mr.hid hsw
    obtain ⟨K, hK⟩ : ∃ K : Fc, K = ⟨c, used, .slice a0 cs.length p0, .slice a1 tr.length p1, .slice a2 1 p2, .slice a3 wl.length p3, .slice ua 2 uc, bs, .slice la n n⟩ := ⟨_, rfl⟩
    replace hK := Mr.hid hK
    refine wpAnyH_take (i := 8) (v := .agg (fA K)) rfl (by kernel_rfl) (by kernel_rfl) (by kernel_rfl) (fun _ _ _ h => h) (Or.inl ⟨by kernel_rfl, fun w' hw => ?y8⟩) hS ?_
    case y8 =>
      rw [hK.out]
      kernel_rfl
    try simp only [Act.put, List.getElem_toArray, List.getElem_cons_zero, List.getElem_cons_succ, List.setIfInBounds_toArray, List.set_cons_zero, List.set_cons_succ]
    refine wpAnyH_ready (rs := [9]) (by kernel_rfl) (by simp) ?_
    refine AllReadyH.cons rfl (fun K' hK' => ?_) AllReadyH.nil
    try simp only [Act.put, List.getElem_toArray, List.getElem_cons_zero, List.getElem_cons_succ, List.setIfInBounds_toArray, List.set_cons_zero, List.set_cons_succ]
    go_simp
    refine hK'.out _ _ (hS.alloc hS.size _) (fun hS' => ?_)
    clear hK' K'
    try simp only [Act.put, List.getElem_toArray, List.getElem_cons_zero, List.getElem_cons_succ, List.setIfInBounds_toArray, List.set_cons_zero, List.set_cons_succ]
    refine wpAnyH_take (i := 10) (v := .pointer (some ⟨w.heap.size, 0, none⟩)) rfl (by kernel_rfl) (by kernel_rfl) (by kernel_rfl) (fun _ _ _ h => h) (Or.inl ⟨by kernel_rfl, fun w' hw => ?y10⟩) hS' ?_
    case y10 =>
      clear hS'
      go_simp
    try simp only [Act.put, List.getElem_toArray, List.getElem_cons_zero, List.getElem_cons_succ, List.setIfInBounds_toArray, List.set_cons_zero, List.set_cons_succ]
    refine wpAnyH_done (by kernel_rfl) ?_ _
    have hBd : Hid (Below wc.heap.size wc (w.alloc (.cells (fA K) 120 (0, 0)))) := hS.alloc hS.size _
    have hbx : Hid (Box (w.alloc (.cells (fA K) 120 (0, 0))) w.heap.size 276 (ff K fg0)) := ⟨_, _, new_at _ _ _ rfl, fun k hk => by unfold fA; simp [hk]⟩
    have hsw2 : Hid (Sw (w.alloc (.cells (fA K) 120 (0, 0))) n bs g1 g2 (sk0 n used)) := hsw.out.below ((Below.refl _ _).alloc (Nat.le_refl _) _)
    have hlt : Hid (bs < w.heap.size ∧ g1 < w.heap.size ∧ g2 < w.heap.size) := ⟨hsw.out.box.lt, hsw.out.r1.lt, hsw.out.r2.lt⟩
    have hwb : Hid (wc.heap.size ≤ w.heap.size) := hS.size
    clear hS hS' hsw
    generalize (w.alloc _) = wd at *
    generalize w.heap.size = bf at *
    have hbl : Hid (bf < wd.heap.size) := hbx.out.lt
    have sl0 := Mr.hid sl
    have n8 : Hid (¬ Fs bf bs g1 g2 b8) := by
      have h1 := hwb.out
      show ¬ _
      rintro (e | e | e | e) <;> omega
    have v0' : K.v2 = .slice a2 1 p2 := by rw [hK.out]
    have v1' : K.bs = bs := by rw [hK.out]
    have sc := fun (k : Nat) => hBd.out.cell (p := ⟨b8, k, none⟩) sl
    replace s0 := (sc 0).trans s0
    replace s1 := (sc 1).trans s1
    replace s2 := (sc 2).trans s2
    replace s3 := (sc 3).trans s3
    replace s4 := (sc 4).trans s4
    replace s5 := (sc 5).trans s5
    replace s6 := (sc 6).trans s6
    replace s7 := (sc 7).trans s7
    replace s8' := (sc 8).trans s8'
    replace s9 := (sc 9).trans s9
    replace s10 := (sc 10).trans s10
    replace s11 := (sc 11).trans s11
    replace s12 := (sc 12).trans s12
    replace sl := Nat.lt_of_lt_of_le sl hBd.out.size
    have f13 := fb_13 hbx.out
    rw [v1'] at f13
    have fl := hbx.out.lt
    clear sc k0 k1 k2 k3 k4 k5 k6 kl s8 hb8
    replace v0' := Mr.hid v0'
    replace v1' := Mr.hid v1'
    have TM := Mr.hid (fun w => turnmk_any c (used : Int) (.slice a0 cs.length p0) (.slice a1 tr.length p1) (.slice a2 1 p2) (.slice a3 wl.length p3) (.slice ua 2 uc) bs w)
    unfold stV at TM
    go_upto_region 5 with (fail)
    have S0' : S5 wd bf bs g1 g2 wd.drew := S5.of ((Below.refl _ _).drew) fl f13
    refine wp_region_held_drew (S := S5 wd bf bs g1 g2) (by kernel_rfl) S0' (fun hS => ?_)
    try simp only [Act.put, List.getElem_toArray, List.getElem_cons_zero, List.getElem_cons_succ, List.setIfInBounds_toArray, List.set_cons_zero, List.set_cons_succ]
    refine wpAnyH_take (i := 0) (v := .pointer (some ⟨bf, 0, none⟩)) rfl (by kernel_rfl) (by kernel_rfl) (by kernel_rfl) (fun _ _ _ h => h) (Or.inl ⟨by kernel_rfl, fun w' hw => ?y0⟩) hS ?_
    case y0 =>
      clear hS
      clear hw
      go_simp
    try simp only [Act.put, List.getElem_toArray, List.getElem_cons_zero, List.getElem_cons_succ, List.setIfInBounds_toArray, List.set_cons_zero, List.set_cons_succ]
    refine wpAnyH_take (i := 1) (v := .func (.func 66) #[.pointer (some ⟨bf, 0, none⟩)] #[]) rfl (by kernel_rfl) (by kernel_rfl) (by kernel_rfl) (fun _ _ _ h => h) (Or.inl ⟨by kernel_rfl, fun w' hw => ?y1⟩) hS ?_
    case y1 =>
      clear hS
      clear hw
      go_simp
    try simp only [Act.put, List.getElem_toArray, List.getElem_cons_zero, List.getElem_cons_succ, List.setIfInBounds_toArray, List.set_cons_zero, List.set_cons_succ]
    refine wpAnyH_take (i := 3) (v := .pointer (some ⟨bf, 0, none⟩)) rfl (by kernel_rfl) (by kernel_rfl) (by kernel_rfl) (fun _ _ _ h => h) (Or.inl ⟨by kernel_rfl, fun w' hw => ?y3⟩) hS ?_
    case y3 =>
      clear hS
      clear hw
      go_simp
    try simp only [Act.put, List.getElem_toArray, List.getElem_cons_zero, List.getElem_cons_succ, List.setIfInBounds_toArray, List.set_cons_zero, List.set_cons_succ]
    refine wpAnyH_take (i := 4) (v := .func (.func 67) #[.pointer (some ⟨bf, 0, none⟩)] #[]) rfl (by kernel_rfl) (by kernel_rfl) (by kernel_rfl) (fun _ _ _ h => h) (Or.inl ⟨by kernel_rfl, fun w' hw => ?y4⟩) hS ?_
    case y4 =>
      clear hS
      clear hw
      go_simp
    try simp only [Act.put, List.getElem_toArray, List.getElem_cons_zero, List.getElem_cons_succ, List.setIfInBounds_toArray, List.set_cons_zero, List.set_cons_succ]
    refine wpAnyH_take (i := 5) (v := .pointer (some ⟨bf, 0, none⟩)) rfl (by kernel_rfl) (by kernel_rfl) (by kernel_rfl) (fun _ _ _ h => h) (Or.inl ⟨by kernel_rfl, fun w' hw => ?y5⟩) hS ?_
    case y5 =>
      clear hS
      clear hw
      go_simp
    try simp only [Act.put, List.getElem_toArray, List.getElem_cons_zero, List.getElem_cons_succ, List.setIfInBounds_toArray, List.set_cons_zero, List.set_cons_succ]
    refine wpAnyH_take (i := 6) (v := .func (.func 68) #[.pointer (some ⟨bf, 0, none⟩)] #[]) rfl (by kernel_rfl) (by kernel_rfl) (by kernel_rfl) (fun _ _ _ h => h) (Or.inl ⟨by kernel_rfl, fun w' hw => ?y6⟩) hS ?_
    case y6 =>
      clear hS
      clear hw
      go_simp
    try simp only [Act.put, List.getElem_toArray, List.getElem_cons_zero, List.getElem_cons_succ, List.setIfInBounds_toArray, List.set_cons_zero, List.set_cons_succ]
    refine wpAnyH_take (i := 8) (v := .pointer (some ⟨bf, 0, none⟩)) rfl (by kernel_rfl) (by kernel_rfl) (by kernel_rfl) (fun _ _ _ h => h) (Or.inl ⟨by kernel_rfl, fun w' hw => ?y8⟩) hS ?_
    case y8 =>
      clear hS
      clear hw
      go_simp
    try simp only [Act.put, List.getElem_toArray, List.getElem_cons_zero, List.getElem_cons_succ, List.setIfInBounds_toArray, List.set_cons_zero, List.set_cons_succ]
    refine wpAnyH_take (i := 9) (v := .func (.func 69) #[.pointer (some ⟨bf, 0, none⟩)] #[]) rfl (by kernel_rfl) (by kernel_rfl) (by kernel_rfl) (fun _ _ _ h => h) (Or.inl ⟨by kernel_rfl, fun w' hw => ?y9⟩) hS ?_
    case y9 =>
      clear hS
      clear hw
      go_simp
    try simp only [Act.put, List.getElem_toArray, List.getElem_cons_zero, List.getElem_cons_succ, List.setIfInBounds_toArray, List.set_cons_zero, List.set_cons_succ]
    refine wpAnyH_take (i := 10) (v := .pointer (some ⟨bf, 0, none⟩)) rfl (by kernel_rfl) (by kernel_rfl) (by kernel_rfl) (fun _ _ _ h => h) (Or.inl ⟨by kernel_rfl, fun w' hw => ?y10⟩) hS ?_
    case y10 =>
      clear hS
      clear hw
      go_simp
    try simp only [Act.put, List.getElem_toArray, List.getElem_cons_zero, List.getElem_cons_succ, List.setIfInBounds_toArray, List.set_cons_zero, List.set_cons_succ]
    refine wpAnyH_take (i := 11) (v := .func (.func 70) #[.pointer (some ⟨bf, 0, none⟩)] #[]) rfl (by kernel_rfl) (by kernel_rfl) (by kernel_rfl) (fun _ _ _ h => h) (Or.inl ⟨by kernel_rfl, fun w' hw => ?y11⟩) hS ?_
    case y11 =>
      clear hS
      clear hw
      go_simp
    try simp only [Act.put, List.getElem_toArray, List.getElem_cons_zero, List.getElem_cons_succ, List.setIfInBounds_toArray, List.set_cons_zero, List.set_cons_succ]
    refine wpAnyH_take (i := 12) (v := .pointer (some ⟨bf, 0, none⟩)) rfl (by kernel_rfl) (by kernel_rfl) (by kernel_rfl) (fun _ _ _ h => h) (Or.inl ⟨by kernel_rfl, fun w' hw => ?y12⟩) hS ?_
    case y12 =>
      clear hS
      clear hw
      go_simp
    try simp only [Act.put, List.getElem_toArray, List.getElem_cons_zero, List.getElem_cons_succ, List.setIfInBounds_toArray, List.set_cons_zero, List.set_cons_succ]
    refine wpAnyH_take (i := 13) (v := .func (.func 71) #[.pointer (some ⟨bf, 0, none⟩)] #[]) rfl (by kernel_rfl) (by kernel_rfl) (by kernel_rfl) (fun _ _ _ h => h) (Or.inl ⟨by kernel_rfl, fun w' hw => ?y13⟩) hS ?_
    case y13 =>
      clear hS
      clear hw
      go_simp
    try simp only [Act.put, List.getElem_toArray, List.getElem_cons_zero, List.getElem_cons_succ, List.setIfInBounds_toArray, List.set_cons_zero, List.set_cons_succ]
    refine wpAnyH_take (i := 14) (v := .agg #[.int .i64 (c 0), .int .i64 (c 1), .int .i64 (c 2), .int .i64 (c 3), .int .i64 (c 4), .int .i64 (c 5), .int .i64 (c 6), .int .i64 (used : Int), .slice a0 cs.length p0, .slice a1 tr.length p1, .slice a2 1 p2, .slice a3 wl.length p3, .slice ua 2 uc]) rfl (by kernel_rfl) (by kernel_rfl) (by kernel_rfl) (fun _ _ _ h => h) (Or.inl ⟨by kernel_rfl, fun w' hw => ?y14⟩) hS ?_
    case y14 =>
      clear hS
      have z0 := (frc hw.1 sl n8.out 0).trans s0
      have z1 := (frc hw.1 sl n8.out 1).trans s1
      have z2 := (frc hw.1 sl n8.out 2).trans s2
      have z3 := (frc hw.1 sl n8.out 3).trans s3
      have z4 := (frc hw.1 sl n8.out 4).trans s4
      have z5 := (frc hw.1 sl n8.out 5).trans s5
      have z6 := (frc hw.1 sl n8.out 6).trans s6
      have z7 := (frc hw.1 sl n8.out 7).trans s7
      have z8 := (frc hw.1 sl n8.out 8).trans s8'
      have z9 := (frc hw.1 sl n8.out 9).trans s9
      have z10 := (frc hw.1 sl n8.out 10).trans s10
      have z11 := (frc hw.1 sl n8.out 11).trans s11
      have z12 := (frc hw.1 sl n8.out 12).trans s12
      clear hw
      go_simp
    try simp only [Act.put, List.getElem_toArray, List.getElem_cons_zero, List.getElem_cons_succ, List.setIfInBounds_toArray, List.set_cons_zero, List.set_cons_succ]
    refine wpAnyH_take (i := 15) (v := .pointer (some ⟨bf, 0, none⟩)) rfl (by kernel_rfl) (by kernel_rfl) (by kernel_rfl) (fun _ _ _ h => h) (Or.inl ⟨by kernel_rfl, fun w' hw => ?y15⟩) hS ?_
    case y15 =>
      clear hS
      clear hw
      go_simp
    try simp only [Act.put, List.getElem_toArray, List.getElem_cons_zero, List.getElem_cons_succ, List.setIfInBounds_toArray, List.set_cons_zero, List.set_cons_succ]
    refine wpAnyH_take (i := 16) (v := .pointer (some ⟨bf, 0, none⟩)) rfl (by kernel_rfl) (by kernel_rfl) (by kernel_rfl) (fun _ _ _ h => h) (Or.inl ⟨by kernel_rfl, fun w' hw => ?y16⟩) hS ?_
    case y16 =>
      clear hS
      clear hw
      go_simp
    try simp only [Act.put, List.getElem_toArray, List.getElem_cons_zero, List.getElem_cons_succ, List.setIfInBounds_toArray, List.set_cons_zero, List.set_cons_succ]
    refine wpAnyH_take (i := 17) (v := .pointer (some ⟨bf, 13, none⟩)) rfl (by kernel_rfl) (by kernel_rfl) (by kernel_rfl) (fun _ _ _ h => h) (Or.inl ⟨by kernel_rfl, fun w' hw => ?y17⟩) hS ?_
    case y17 =>
      clear hS
      clear hw
      go_simp
    try simp only [Act.put, List.getElem_toArray, List.getElem_cons_zero, List.getElem_cons_succ, List.setIfInBounds_toArray, List.set_cons_zero, List.set_cons_succ]
    refine wpAnyH_take (i := 18) (v := .pointer (some ⟨bs, 0, none⟩)) rfl (by kernel_rfl) (by kernel_rfl) (by kernel_rfl) (fun _ _ _ h => h) (Or.inl ⟨by kernel_rfl, fun w' hw => ?y18⟩) hS ?_
    case y18 =>
      clear hS
      have z13 := hw.2
      clear hw
      go_simp
    try simp only [Act.put, List.getElem_toArray, List.getElem_cons_zero, List.getElem_cons_succ, List.setIfInBounds_toArray, List.set_cons_zero, List.set_cons_succ]
    refine wpAnyH_take (i := 21) (v := .pointer (some ⟨bf, 0, none⟩)) rfl (by kernel_rfl) (by kernel_rfl) (by kernel_rfl) (fun _ _ _ h => h) (Or.inl ⟨by kernel_rfl, fun w' hw => ?y21⟩) hS ?_
    case y21 =>
      clear hS
      clear hw
      go_simp
    try simp only [Act.put, List.getElem_toArray, List.getElem_cons_zero, List.getElem_cons_succ, List.setIfInBounds_toArray, List.set_cons_zero, List.set_cons_succ]
    refine wpAnyH_take (i := 22) (v := .func (.func 72) #[.pointer (some ⟨bf, 0, none⟩)] #[]) rfl (by kernel_rfl) (by kernel_rfl) (by kernel_rfl) (fun _ _ _ h => h) (Or.inl ⟨by kernel_rfl, fun w' hw => ?y22⟩) hS ?_
    case y22 =>
      clear hS
      clear hw
      go_simp
    try simp only [Act.put, List.getElem_toArray, List.getElem_cons_zero, List.getElem_cons_succ, List.setIfInBounds_toArray, List.set_cons_zero, List.set_cons_succ]
    refine wpAnyH_take (i := 25) (v := .pointer (some ⟨b8, 12, none⟩)) rfl (by kernel_rfl) (by kernel_rfl) (by kernel_rfl) (fun _ _ _ h => h) (Or.inl ⟨by kernel_rfl, fun w' hw => ?y25⟩) hS ?_
    case y25 =>
      clear hS
      clear hw
      go_simp
    try simp only [Act.put, List.getElem_toArray, List.getElem_cons_zero, List.getElem_cons_succ, List.setIfInBounds_toArray, List.set_cons_zero, List.set_cons_succ]
    refine wpAnyH_take (i := 26) (v := .slice ua 2 uc) rfl (by kernel_rfl) (by kernel_rfl) (by kernel_rfl) (fun _ _ _ h => h) (Or.inl ⟨by kernel_rfl, fun w' hw => ?y26⟩) hS ?_
    case y26 =>
      clear hS
      have z12 := (frc hw.1 sl n8.out 12).trans s12
      clear hw
      go_simp
    try simp only [Act.put, List.getElem_toArray, List.getElem_cons_zero, List.getElem_cons_succ, List.setIfInBounds_toArray, List.set_cons_zero, List.set_cons_succ]
    refine wpAnyH_floats2 (S := S5 wd bf bs g1 g2) (al := [2, 7, 19, 20, 23]) (dep := fun i => if i = 20 then [19] else []) (fuel := 2) (by decide) (by kernel_rfl) (by kernel_rfl) (fun x => ⟨#[.agg #[.int .i64 (c 0), .int .i64 (c 1), .int .i64 (c 2), .int .i64 (c 3), .int .i64 (c 4), .int .i64 (c 5), .int .i64 (c 6)], .int .i64 (used : Int), .agg #[.slice a0 cs.length p0, .slice a1 tr.length p1, .slice a2 1 p2, .slice a3 wl.length p3], .pointer (some ⟨W.heap.size, 0, none⟩), undef, .pointer (some ⟨W.heap.size + 1, 0, none⟩), .slice none 0 0, .int .i64 0, .pointer (some ⟨b8, 0, none⟩), .int .i64 0, .pointer (some ⟨bf, 0, none⟩), .tuple #[.agg #[.int .i64 (c 0), .int .i64 (c 1), .int .i64 (c 2), .int .i64 (c 3), .int .i64 (c 4), .int .i64 (c 5), .int .i64 (c 6), .int .i64 (used : Int), .slice a0 cs.length p0, .slice a1 tr.length p1, .slice a2 1 p2, .slice a3 wl.length p3, .slice ua 2 uc], .int .i64 0], .agg #[.int .i64 (c 0), .int .i64 (c 1), .int .i64 (c 2), .int .i64 (c 3), .int .i64 (c 4), .int .i64 (c 5), .int .i64 (c 6)], .int .i64 (used : Int), .agg #[.slice a0 cs.length p0, .slice a1 tr.length p1, .slice a2 1 p2, .slice a3 wl.length p3], .tuple #[.agg #[.int .i64 (c 0), .int .i64 (c 1), .int .i64 (c 2), .int .i64 (c 3), .int .i64 (c 4), .int .i64 (c 5), .int .i64 (c 6), .int .i64 (used : Int), .slice a0 cs.length p0, .slice a1 tr.length p1, .slice a2 1 p2, .slice a3 wl.length p3, .slice ua 2 uc], .int .i64 0], .agg #[.int .i64 (c 0), .int .i64 (c 1), .int .i64 (c 2), .int .i64 (c 3), .int .i64 (c 4), .int .i64 (c 5), .int .i64 (c 6), .int .i64 (used : Int), .slice a0 cs.length p0, .slice a1 tr.length p1, .slice a2 1 p2, .slice a3 wl.length p3, .slice ua 2 uc], .int .i64 0, .int .i64 0, .bool false, undef, .agg #[.int .i64 (c 0), .int .i64 (c 1), .int .i64 (c 2), .int .i64 (c 3), .int .i64 (c 4), .int .i64 (c 5), .int .i64 (c 6), .int .i64 (used : Int), .slice a0 cs.length p0, .slice a1 tr.length p1, .slice a2 1 p2, .slice a3 wl.length p3, .slice ua 2 uc], .agg #[.int .i64 (c 0), .int .i64 (c 1), .int .i64 (c 2), .int .i64 (c 3), .int .i64 (c 4), .int .i64 (c 5), .int .i64 (c 6)], .int .i64 (used : Int), .pointer (some ⟨bs, 0, none⟩), .slice (some ⟨g, 0, none⟩) 1 1, .pointer (some ⟨W.heap.size, 5, none⟩), .int .i64 (c 5), .slice la n n, .agg (fA K), .pointer (some ⟨bf, 0, none⟩), .pointer (some ⟨bf, 0, none⟩), .func (.func 66) #[.pointer (some ⟨bf, 0, none⟩)] #[], x 2, .pointer (some ⟨bf, 0, none⟩), .func (.func 67) #[.pointer (some ⟨bf, 0, none⟩)] #[], .pointer (some ⟨bf, 0, none⟩), .func (.func 68) #[.pointer (some ⟨bf, 0, none⟩)] #[], x 7, .pointer (some ⟨bf, 0, none⟩), .func (.func 69) #[.pointer (some ⟨bf, 0, none⟩)] #[], .pointer (some ⟨bf, 0, none⟩), .func (.func 70) #[.pointer (some ⟨bf, 0, none⟩)] #[], .pointer (some ⟨bf, 0, none⟩), .func (.func 71) #[.pointer (some ⟨bf, 0, none⟩)] #[], .agg #[.int .i64 (c 0), .int .i64 (c 1), .int .i64 (c 2), .int .i64 (c 3), .int .i64 (c 4), .int .i64 (c 5), .int .i64 (c 6), .int .i64 (used : Int), .slice a0 cs.length p0, .slice a1 tr.length p1, .slice a2 1 p2, .slice a3 wl.length p3, .slice ua 2 uc], .pointer (some ⟨bf, 0, none⟩), .pointer (some ⟨bf, 0, none⟩), .pointer (some ⟨bf, 13, none⟩), .pointer (some ⟨bs, 0, none⟩), x 19, x 20, .pointer (some ⟨bf, 0, none⟩), .func (.func 72) #[.pointer (some ⟨bf, 0, none⟩)] #[], x 23, undef, .pointer (some ⟨b8, 12, none⟩), .slice ua 2 uc, undef, undef, undef, undef, undef], []⟩) (P5 wd.heap.size bf bs (.slice a2 1 p2)) (fun w => Below wd.heap.size wd w) (fun _ => undef) wd.drew hS ((Below.refl _ _).drew) ?_ ?_
    · intro i hi xv d w hS hG hd hdp K' hK'
      have hkp : ∀ w2, Below w.heap.size w w2 → ∀ j ∈ d, P5 wd.heap.size bf bs (.slice a2 1 p2) j (xv j) w2 := fun w2 hB j hj => P5.below (hd j hj) hB
      have hsz : wd.heap.size ≤ w.heap.size := hG.size
      replace hK' : ∀ y w2, Below w.heap.size w w2 → P5 wd.heap.size bf bs (.slice a2 1 p2) i y w2 → _ := fun y w2 hB h => hK' y w2 (S5.of (hG.trans (hB.mono hG.size)) fl f13) (hG.trans (hB.mono hG.size)) (hkp w2 hB) h
      clear hS hkp
      replace hK' := Mr.hid hK'
      replace hG := Mr.hid hG
      simp only [List.mem_cons, List.not_mem_nil, or_false] at hi
      rcases hi with rfl | rfl | rfl | rfl | rfl
      · clear hd
        have hf := hK'.out _ _ ((Below.refl _ _).alloc (Nat.le_refl _) _) (P5.new 2 (by decide) (by decide) hsz (bf := bf) (bs := bs) (V2 := .slice a2 1 p2))
        replace hf := Mr.hid hf
        refine wpOp_step rfl (fun K2 hK2 => ?_)
        replace hK2 := Mr.hid hK2
        try simp only [Act.put, List.getElem_toArray, List.getElem_cons_zero, List.getElem_cons_succ, List.setIfInBounds_toArray, List.set_cons_zero, List.set_cons_succ]
        go_simp
        exact hK2.out _ _ hf.out
      · clear hd
        have hf := hK'.out _ _ ((Below.refl _ _).alloc (Nat.le_refl _) _) (P5.new 7 (by decide) (by decide) hsz (bf := bf) (bs := bs) (V2 := .slice a2 1 p2))
        replace hf := Mr.hid hf
        refine wpOp_step rfl (fun K2 hK2 => ?_)
        replace hK2 := Mr.hid hK2
        try simp only [Act.put, List.getElem_toArray, List.getElem_cons_zero, List.getElem_cons_succ, List.setIfInBounds_toArray, List.set_cons_zero, List.set_cons_succ]
        go_simp
        exact hK2.out _ _ hf.out
      · clear hd
        refine wpOp_step rfl (fun K2 hK2 => ?_)
        replace hK2 := Mr.hid hK2
        try simp only [Act.put, List.getElem_toArray, List.getElem_cons_zero, List.getElem_cons_succ, List.setIfInBounds_toArray, List.set_cons_zero, List.set_cons_succ]
        go_simp
        refine (TM.out w).mono ?_
        rintro e w2 ⟨hB2', ba, bt, rfl, h1, h2, h3, h4, h5, h6⟩
        exact hK2.out _ _ (hK'.out _ _ hB2' (by unfold P5; rw [if_pos rfl]; exact ⟨ba, bt, rfl, Nat.le_trans hsz h1, Nat.le_trans hsz h2, h3, h4, h5, h6⟩))
      · have h4 := hd 19 (hdp 19 (by simp))
        clear hd
        unfold P5 at h4
        rw [if_pos rfl] at h4
        obtain ⟨ba, bt, e4, hta⟩ := h4
        have hf := hK'.out _ _ ((Below.refl _ _).alloc (Nat.le_refl _) _) (P5.new20 (bf := bf) hta hsz)
        have u4 : ∀ u, upd xv 20 u 19 = (tfv ba bt).val := fun u => by rw [upd_ne xv _ (by decide)]; exact e4
        have u2 : ∀ u, upd xv 20 u 2 = xv 2 := fun u => upd_ne xv _ (by decide)
        have u3 : ∀ u, upd xv 20 u 7 = xv 7 := fun u => upd_ne xv _ (by decide)
        have u5 : ∀ u, upd xv 20 u 23 = xv 23 := fun u => upd_ne xv _ (by decide)
        have u7 : ∀ u, upd xv 20 u 20 = u := fun u => upd_self _ _ _
        simp only [u4, u3, u2, u5, u7] at hf
        clear u4 u3 u2 u5 u7
        replace hf := Mr.hid hf
        replace hta := Mr.hid hta
        refine wpOp_step rfl (fun K2 hK2 => ?_)
        replace hK2 := Mr.hid hK2
        simp only [e4]
        unfold tfv Fv.val
        try simp only [Act.put, List.getElem_toArray, List.getElem_cons_zero, List.getElem_cons_succ, List.setIfInBounds_toArray, List.set_cons_zero, List.set_cons_succ]
        go_simp
        exact hK2.out _ _ hf.out
      · clear hd
        have hf := hK'.out _ _ ((Below.refl _ _).alloc (Nat.le_refl _) _) (P5.new 23 (by decide) (by decide) hsz (bf := bf) (bs := bs) (V2 := .slice a2 1 p2))
        replace hf := Mr.hid hf
        refine wpOp_step rfl (fun K2 hK2 => ?_)
        replace hK2 := Mr.hid hK2
        try simp only [Act.put, List.getElem_toArray, List.getElem_cons_zero, List.getElem_cons_succ, List.setIfInBounds_toArray, List.set_cons_zero, List.set_cons_succ]
        go_simp
        exact hK2.out _ _ hf.out
    · intro xv w hS hG hΦ
      have h2 := hΦ 2 (by simp)
      have h7 := hΦ 7 (by simp)
      have h20 := hΦ 20 (by simp)
      have h23 := hΦ 23 (by simp)
      unfold P5 at h2 h7 h20 h23
      rw [if_neg (by decide), if_neg (by decide)] at h2 h7 h23
      rw [if_neg (by decide), if_pos rfl] at h20
      obtain ⟨ba, bt, h20, hta⟩ := h20
      have r0 := h2.row
      have r3 := h20.row
      have r5 := h23.row
      obtain ⟨q2, e2, _, _⟩ := h2
      obtain ⟨q7, e7, _, _⟩ := h7
      obtain ⟨q20, e20, _, _⟩ := h20
      obtain ⟨q23, e23, _, _⟩ := h23
      replace e2 : xv 2 = .slice (some ⟨q2, 0, none⟩) 1 1 := e2
      replace e7 : xv 7 = .slice (some ⟨q7, 0, none⟩) 2 2 := e7
      replace e20 : xv 20 = .slice (some ⟨q20, 0, none⟩) 4 4 := e20
      replace e23 : xv 23 = .slice (some ⟨q23, 0, none⟩) 1 1 := e23
      rw [e2] at r0
      rw [e20] at r3
      rw [e23] at r5
      have BC : Below wc.heap.size wc w := hBd.out.trans (hG.mono hBd.out.size)
      have BA : Below wa.heap.size wa w := hB2.out.trans (BC.mono hB2.out.size)
      have BW : Hid (Below W.heap.size W w) := B0.out.trans (BA.mono B0.out.size)
      obtain ⟨t1, t2, t3, t4, t5, t6⟩ := hta
      have z1 := hwb.out
      have z2 := hlt.out
      have z3 := hbl.out
      have z4 := hB2.out.size
      have z5 := B0.out.size
      have z6 := sl0.out
      have FI : Fi (fun k => T k ∧ k < W.heap.size) K bf n g1 g2 ba bt [x] w [] := by
        refine ⟨fg0, sk0 n used, ⟨hbx.out.below hG, ?_, sk0_ok n used hu, ?_, ?_, ?_, t3, t4, ?_, ?_, ?_, ?_, ?_, ?_⟩, rfl, Own.zero _ _ _ _ _, fun _ => rfl⟩
        · rw [v1'.out]; exact hsw2.out.below hG
        · rw [v0'.out]; exact hrun.out.lt.shifts.below BW.out
        · rw [v1'.out]; exact t5
        · rw [v0'.out]; exact t6
        · rw [v1'.out]; rintro k ⟨_, hk⟩ (e | e | e | e) <;> omega
        · rw [v1'.out]; rintro (e | e | e | e) <;> omega
        · rw [v1'.out]; rintro (e | e | e | e) <;> omega
        · rw [v1'.out]; omega
        · omega
        · omega
      have FW := fwatch (T' := fun k => wd.heap.size ≤ k) (Te := fun k => wa.heap.size ≤ k ∧ k < b8) (v2 := .slice (some ⟨q7, 0, none⟩) 2 2) (v4 := .slice none 0 0) FI r0 r3 r5 (by rw [v1'.out]; rintro k hk (e | e | e | e) <;> omega) (he4.out.below BC) (by rw [v1'.out]; rintro k ⟨_, hk⟩ (e | e | e | e) <;> omega) hk1.out hk2.out hk3.out hfr.out hto.out hxs.out hth.out
      unfold tabV at FW
      replace FW := Mr.hid FW
      have hSw := Mr.hid hS
      replace hG := Mr.hid hG
      simp only [e2, e7, e20, e23]
      clear hΦ e2 e7 e20 e23 FI r0 r3 r5 BC BA t1 t2 t3 t4 t5 t6 z1 z2 z3 z4 z5 z6
      generalize xv 19 = x19
      refine wpAnyH_take (i := 24) (v := .agg #[.slice (some ⟨q2, 0, none⟩) 1 1, .slice none 0 0, .slice (some ⟨q7, 0, none⟩) 2 2, .slice (some ⟨q20, 0, none⟩) 4 4, .slice none 0 0, .slice (some ⟨q23, 0, none⟩) 1 1]) rfl (by kernel_rfl) (by kernel_rfl) (by kernel_rfl) (fun _ _ _ h => h) (Or.inl ⟨by kernel_rfl, fun w' hw => ?y24⟩) hS ?_
      case y24 =>
        clear hS hw
        go_simp
      try simp only [Act.put, List.getElem_toArray, List.getElem_cons_zero, List.getElem_cons_succ, List.setIfInBounds_toArray, List.set_cons_zero, List.set_cons_succ]
      refine wpAnyH_ready (rs := [27]) (by kernel_rfl) (by simp) ?_
      refine AllReadyH.cons rfl (fun K' hK' => ?_) AllReadyH.nil
      clear hS
      try simp only [Act.put, List.getElem_toArray, List.getElem_cons_zero, List.getElem_cons_succ, List.setIfInBounds_toArray, List.set_cons_zero, List.set_cons_succ]
      go_simp
      refine FW.out.mono ?_
      rintro e5 w5 ⟨rfl, ⟨s, k, hFw, ht, hO, _⟩, hFr⟩
      have f135 := fb_13 hFw.box
      rw [v1'.out] at f135 hFr
      refine hK'.out _ _ ⟨hSw.out.1.trans (hFr.mono (fun k hk => .inl hk)), f135⟩ (fun hS5 => ?_)
      clear hS5 hK' K'
      try simp only [Act.put, List.getElem_toArray, List.getElem_cons_zero, List.getElem_cons_succ, List.setIfInBounds_toArray, List.set_cons_zero, List.set_cons_succ]
      refine wpAnyH_done (by kernel_rfl) ?_ _
      obtain ⟨fa, fc, hfv, _, _⟩ := hO.form
      have c275 := fb_275 hFw.box
      rw [hfv] at c275 hO
      have hO5 := Mr.hid (hO.mono (T := fun _ => True) (fun _ _ => trivial))
      have BW5 : Hid (Below W.heap.size W w5) := ⟨hFr.os.trans BW.out.os, hFr.tape.trans BW.out.tape, hFr.output.trans BW.out.output, Nat.le_trans BW.out.size hFr.size, fun k hk => (hFr.block k (Nat.lt_of_lt_of_le hk BW.out.size) (by
        have z1 := hwb.out
        have z2 := hlt.out
        have z4 := hB2.out.size
        have z5 := B0.out.size
        rintro (e | e | e | e) <;> omega)).trans (BW.out.block k hk)⟩
      clear s0 s1 s2 s3 s4 s5 s6 s7 s8' s9 s10 s11 s12 sl fl f13 f135 hFr hFw hfv hO FW TM
      go_wp2
      go_ret2
      exact ⟨BW5.out, _, rfl, hO5.out⟩
end Go.Proofs.YtpknggcgojkjgaaGreat.Cn
/-
  CONTRACT of Addr.
-/
namespace Go.Proofs.YtpknggcgojkjgaaGreat.Wm
open Go.RowKit
open Wc
set_option linter.unusedVariables false


theorem i64w (x : Int) (h1 : -9223372036854775808 ≤ x) (h2 : x ≤ 9223372036854775807) : IntKind.i64.wrap x = x := by
  simp [IntKind.wrap, IntKind.signed, IntKind.bits]; omega
theorem inB_iff {n a b : Int} (h : inB n a b = true) : a ≤ n ∧ n ≤ b := by simpa [inB] using h
theorem addr_sum {a1 a2 a5 a6 r i k : Int} (hok : Ok a1 a2 a5 a6) (h2 : r ≤ 13) (h3 : inB i 0 (items a1 a5 a6 r - 1) = true) (h4 : inB k 0 (each a2 r - 1) = true) :
    IntKind.i64.wrap (IntKind.i64.wrap (base a1 a2 a5 a6 r.toNat + IntKind.i64.wrap (i * each a2 r)) + k) = base a1 a2 a5 a6 r.toNat + i * each a2 r + k := by
  have ib := items_bd hok r
  have eb := each_bd hok r
  have bb := base_bd hok r.toNat
  have h3 := inB_iff h3
  have h4 := inB_iff h4
  have m1 : 0 ≤ i * each a2 r := Int.mul_nonneg h3.1 (by omega)
  have m2 : i * each a2 r ≤ 1024 * 8 := Int.mul_le_mul (by omega) eb.2 (by omega) (by omega)
  have hr : (r.toNat : Int) ≤ 13 := by omega
  rw [i64w (i * each a2 r) (by omega) (by omega), i64w (base a1 a2 a5 a6 r.toNat + i * each a2 r) (by omega) (by omega), i64w _ (by omega) (by omega)]
theorem ret2 {a b c : Int} (h : a = b) : Ending.returned (.tuple #[.int .i64 a, .int .i64 c]) = .returned (.tuple #[.int .i64 b, .int .i64 c]) := by rw [h]




end Go.Proofs.YtpknggcgojkjgaaGreat.Wm
