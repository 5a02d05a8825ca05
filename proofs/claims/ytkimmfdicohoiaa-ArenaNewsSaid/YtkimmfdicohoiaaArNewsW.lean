/-
  THE LAW ArenaNews.
-/
import Derived.Test.YtkimmfdicohoiaaArShowsB
import Derived.Test.YtkimmfdicohoiaaWordCfgRef
namespace Go.Proofs.Ytkimmfdicohoiaa.Ar
open Go.RowKit Go.Shelf Mr Me Ma Wc Wm Wr Rf
set_option linter.unusedVariables false
set_option linter.unusedSimpArgs false
def cfgO (c : Cf) : Obj := .cells #[.int .i64 c.a0, .int .i64 c.a1, .int .i64 c.a2, .int .i64 c.a3, .int .i64 c.a4, .int .i64 c.a5, .int .i64 c.a6] 23 (0, 0)
/-- What the law keeps of its own configuration. -/
def Kc (w : World) (c : Cf) (w1 : World) : Prop := Below w.heap.size w w1 ∧ w1.heap[w.heap.size]? = some (cfgO c)
theorem Kc.below {w w1 w2 : World} {c : Cf} (h : Kc w c w1) (hB : Below w1.heap.size w1 w2) : Kc w c w2 :=
  ⟨h.1.trans (hB.mono h.1.size), (hB.block _ (Array.getElem?_eq_some_iff.1 h.2).1).trans h.2⟩
theorem Kc.cells {w w1 : World} {c : Cf} (h : Kc w c w1) : w1.cell? ⟨w.heap.size, 0, none⟩ = some (.int .i64 c.a0) ∧ w1.cell? ⟨w.heap.size, 1, none⟩ = some (.int .i64 c.a1) ∧ w1.cell? ⟨w.heap.size, 2, none⟩ = some (.int .i64 c.a2) ∧ w1.cell? ⟨w.heap.size, 3, none⟩ = some (.int .i64 c.a3) ∧ w1.cell? ⟨w.heap.size, 4, none⟩ = some (.int .i64 c.a4) ∧ w1.cell? ⟨w.heap.size, 5, none⟩ = some (.int .i64 c.a5) ∧ w1.cell? ⟨w.heap.size, 6, none⟩ = some (.int .i64 c.a6) := by
  have := h.2
  unfold cfgO at this
  simp [World.cell?, this]
set_option maxRecDepth 100000 in
set_option maxHeartbeats 1000000 in
theorem news_bad (c : Cf) (hc : c.ok = false) (u : Int) (w : World) :
    Calls Try.prog 3 #[c.val, .int .i64 u] w fun e w' => e = .returned (.bool true) ∧ Below w.heap.size w w' := by
  have N := fun w1 (h : Kc w c w1) => (new_bad c hc u w1).mono (fun e w' hh => (⟨hh.1, h.below hh.2⟩ : _ ∧ Kc w c w'))
  have C := fun w1 (h : Kc w c w1) => (refConfig c.a0 c.a1 c.a2 c.a3 c.a4 c.a5 c.a6 w1).mono (fun e w' hh => (⟨hh.1, h.below hh.2⟩ : _ ∧ Kc w c w'))
  rw [show cfgB c.a0 c.a1 c.a2 c.a3 c.a4 c.a5 c.a6 = false from hc] at C
  have K0 : Kc w c (w.alloc (cfgO c)) := ⟨(Below.refl _ _).alloc (Nat.le_refl _) _, heap_alloc_new w _⟩
  have X0 := K0.cells
  unfold cfgO at K0 X0
  obtain ⟨x0, x1, x2, x3, x4, x5, x6⟩ := X0
  unfold Cf.val at N ⊢
  replace N := Mr.hid N
  replace C := Mr.hid C
  replace K0 := Mr.hid K0
  clear hc
  go_enter Try.func3, Try.ntmps3
  go_wp2_with (first | (go_at_call 4; refine (N.out _ K0.out).mono ?_; clear N; rintro e w1 ⟨rfl, K1⟩; obtain ⟨y0, y1, y2, y3, y4, y5, y6⟩ := K1.cells; replace K1 := Mr.hid K1) | (go_at_call 5; refine (C.out _ K1.out).mono ?_; clear C; rintro e w2 ⟨rfl, K2⟩; obtain ⟨z0, z1, z2, z3, z4, z5, z6⟩ := K2.cells; replace K2 := Mr.hid K2) | (go_at_call 6; refine (num_any _ _).mono ?_; rintro e wn ⟨rfl, rfl⟩))
  go_ret
  exact ⟨rfl, K2.out.1⟩
set_option maxRecDepth 100000 in
set_option maxHeartbeats 1000000 in
theorem news_range (c : Cf) (hc : c.ok = true) (u : Int) (hu : u < 0 ∨ c.a5 < u) (w : World) :
    Calls Try.prog 3 #[c.val, .int .i64 u] w fun e w' => e = .returned (.bool true) ∧ Below w.heap.size w w' := by
  have N := fun w1 (h : Kc w c w1) => (new_range c hc u hu w1).mono (fun e w' hh => (⟨hh.1, h.below hh.2⟩ : _ ∧ Kc w c w'))
  have C := fun w1 (h : Kc w c w1) => (refConfig c.a0 c.a1 c.a2 c.a3 c.a4 c.a5 c.a6 w1).mono (fun e w' hh => (⟨hh.1, h.below hh.2⟩ : _ ∧ Kc w c w'))
  rw [show cfgB c.a0 c.a1 c.a2 c.a3 c.a4 c.a5 c.a6 = true from hc] at C
  have K0 : Kc w c (w.alloc (cfgO c)) := ⟨(Below.refl _ _).alloc (Nat.le_refl _) _, heap_alloc_new w _⟩
  have X0 := K0.cells
  unfold cfgO at K0 X0
  obtain ⟨x0, x1, x2, x3, x4, x5, x6⟩ := X0
  unfold Cf.val at N ⊢
  replace N := Mr.hid N
  replace C := Mr.hid C
  replace K0 := Mr.hid K0
  clear hc
  by_cases h0 : u < 0
  · have d0 : decide (u < 0) = true := decide_eq_true h0
    clear hu
    go_enter Try.func3, Try.ntmps3
    go_wp2_with (first | (go_at_call 4; refine (N.out _ K0.out).mono ?_; clear N; rintro e w1 ⟨rfl, K1⟩; obtain ⟨y0, y1, y2, y3, y4, y5, y6⟩ := K1.cells; replace K1 := Mr.hid K1) | (go_at_call 5; refine (C.out _ K1.out).mono ?_; clear C; rintro e w2 ⟨rfl, K2⟩; obtain ⟨z0, z1, z2, z3, z4, z5, z6⟩ := K2.cells; replace K2 := Mr.hid K2) | (go_at_call 6; refine (num_any _ _).mono ?_; rintro e wn ⟨rfl, rfl⟩))
    go_ret
    exact ⟨rfl, K2.out.1⟩
  · have d0 : decide (u < 0) = false := decide_eq_false h0
    have d1 : decide (c.a5 < u) = true := decide_eq_true (by omega)
    clear hu
    go_enter Try.func3, Try.ntmps3
    go_wp2_with (first | (go_at_call 4; refine (N.out _ K0.out).mono ?_; clear N; rintro e w1 ⟨rfl, K1⟩; obtain ⟨y0, y1, y2, y3, y4, y5, y6⟩ := K1.cells; replace K1 := Mr.hid K1) | (go_at_call 5; refine (C.out _ K1.out).mono ?_; clear C; rintro e w2 ⟨rfl, K2⟩; obtain ⟨z0, z1, z2, z3, z4, z5, z6⟩ := K2.cells; replace K2 := Mr.hid K2) | (go_at_call 6; refine (num_any _ _).mono ?_; rintro e wn ⟨rfl, rfl⟩))
    go_ret
    exact ⟨rfl, K2.out.1⟩
theorem Bo.made {w0 w1 w2 w3 : World} {c : Cf} {ba gs cs n nt nr u N : Nat} {vca : Value} {vs : List Value} {q : Rc} (ha : Ar w1 (fun k => w0.heap.size ≤ k ∧ k < w1.heap.size) ba gs cs c vca vs (Ao.newU n nt u)) (hB : Below w1.heap.size w1 w2) (hq : Mq0 w2 w3 q c (u : Int) nt nr n N) (hn : 1 ≤ n ∧ n ≤ 1024) (ht : 1 ≤ nt ∧ nt ≤ 16) :
    ∃ gst cst gho cho gt ct, Bo w3 ba q.b n nt u c gst cst gho cho gt ct := by
  obtain ⟨hR, _, _, _, _, _, _, _, _, _, _, hnt, hst, hho, _, _, hB3⟩ := hq
  have hBB : Below w1.heap.size w1 w3 := hB.trans (hB3.mono hB.size)
  obtain ⟨gst, cst, est, _, _, _, _⟩ := hst.there (by omega)
  obtain ⟨gho, cho, eho, _, _, _, _⟩ := hho.there (by omega)
  have hbx := hR.bx
  unfold Rc.box at hbx
  rw [est, eho, hnt] at hbx
  have hth := hR.th
  rw [hnt] at hth
  have nar : ∀ {S : Nat → Prop} {e sz m : Nat} {v : Value} {xs : List Value}, Has w3 S e sz v m xs → Has w3 (fun k => k < w3.heap.size) e sz v m xs := fun hh => hh.kept (fun _ _ => rfl) (fun k hk => (hh.lt k hk).2)
  refine ⟨gst, cst, gho, cho, q.gt, q.ct, ⟨gs, cs, vca, vs, ha.kept (fun k hk => hBB.block k hk.2) (fun k hk => by have := hBB.size; omega)⟩, hR.ul _ hR.ub, by simp [World.cell?, hbx], by simp [World.cell?, hbx], by simp [World.cell?, hbx], ?_, ?_, nar hth, hn, ht⟩
  · rw [← est]; exact nar hst
  · rw [← eho]; exact nar hho
/-- What stands while the law shows: the configuration, the arena and the document's machine. -/
def Kp (w : World) (c : Cf) (ba b n nt u gst cst gho cho gt ct : Nat) (w1 : World) : Prop := Kc w c w1 ∧ Bo w1 ba b n nt u c gst cst gho cho gt ct
theorem Kp.below {w w1 w2 : World} {c : Cf} {ba b n nt u gst cst gho cho gt ct : Nat} (h : Kp w c ba b n nt u gst cst gho cho gt ct w1) (hB : Below w1.heap.size w1 w2) : Kp w c ba b n nt u gst cst gho cho gt ct w2 := ⟨h.1.below hB, h.2.below hB⟩
theorem Kp.config {w w1 : World} {c : Cf} {ba b n nt u gst cst gho cho gt ct : Nat} (h : Kp w c ba b n nt u gst cst gho cho gt ct w1) : Calls Try.prog 8 #[.pointer (some ⟨ba, 0, none⟩)] w1 fun e w' => e = .returned c.val ∧ Kp w c ba b n nt u gst cst gho cho gt ct w' := by
  obtain ⟨gs, cs, vca, vs, ha⟩ := h.2.ar
  exact (config_any ha).mono (fun e w' hh => ⟨hh.1, h.below hh.2⟩)
theorem Kp.shows {w w1 : World} {c : Cf} {ba b n nt u gst cst gho cho gt ct : Nat} (h : Kp w c ba b n nt u gst cst gho cho gt ct w1) (s : Int) : Calls Try.prog 9 #[.pointer (some ⟨ba, 0, none⟩), .pointer (some ⟨b, 0, none⟩), .int .i64 s] w1 fun e w' => e = .returned (.bool true) ∧ Kp w c ba b n nt u gst cst gho cho gt ct w' :=
  (shows_any h.2 s).mono (fun e w' hh => ⟨hh.1, h.below hh.2⟩)
set_option maxRecDepth 100000 in
set_option maxHeartbeats 1000000 in
theorem news_ok (c : Cf) (hc : c.ok = true) (u : Nat) (hu : (u : Int) ≤ c.a5) (w : World) :
    Calls Try.prog 3 #[c.val, .int .i64 (u : Int)] w fun e w' => e = .returned (.bool true) ∧ Below w.heap.size w w' := by
  have hc' : cfgB c.a0 c.a1 c.a2 c.a3 c.a4 c.a5 c.a6 = true := hc
  obtain ⟨p1, p2, p3, p4, p5, p6, p7, p8⟩ := ok_of hc'
  have q0 : 1 ≤ c.a0 ∧ c.a0 ≤ 16 := by
    have : inB c.a0 1 16 = true := by simp [cfgB] at hc'; simp [hc'.1.1.1.1.1.1]
    exact inB_iff this
  obtain ⟨n, hn⟩ : ∃ n : Nat, c.a5 = n := ⟨c.a5.toNat, by omega⟩
  obtain ⟨nt, hnt⟩ : ∃ n : Nat, c.a0 = n := ⟨c.a0.toNat, by omega⟩
  obtain ⟨nr, hnr⟩ : ∃ n : Nat, c.a1 = n := ⟨c.a1.toNat, by omega⟩
  obtain ⟨N, hN⟩ : ∃ N : Nat, base c.a1 c.a2 c.a5 c.a6 14 = (N : Int) := ⟨(base c.a1 c.a2 c.a5 c.a6 14).toNat, by
    have hb : base c.a1 c.a2 c.a5 c.a6 14 = 6 + c.a6 + c.a1 + c.a1 * c.a2 + 4 * c.a5 := base14 _ _ _ _
    have : 0 ≤ c.a1 * c.a2 := Int.mul_nonneg (by omega) (by omega)
    omega⟩
  have NW := fun w1 (h : Kc w c w1) => (new_used c hc n nt u hn hnt (by omega) w1).mono (fun e w' hh => (by
    obtain ⟨ba, gs, cs, vca, vs, h1, h2, h3⟩ := hh
    exact ⟨ba, h1, h.below h3, fun w2 hB w3 q hq => Bo.made h2 hB hq (by omega) (by omega)⟩ : ∃ ba, e = .returned (.tuple #[.pointer (some ⟨ba, 0, none⟩), .int .i64 0]) ∧ Kc w c w' ∧ ∀ w2, Below w'.heap.size w' w2 → ∀ w3 q, Mq0 w2 w3 q c (u : Int) nt nr n N → ∃ gst cst gho cho gt ct, Bo w3 ba q.b n nt u c gst cst gho cho gt ct))
  have C := fun w1 (h : Kc w c w1) => (refConfig c.a0 c.a1 c.a2 c.a3 c.a4 c.a5 c.a6 w1).mono (fun e w' hh => (⟨hh.1, h.below hh.2, hh.2⟩ : _ ∧ Kc w c w' ∧ Below w1.heap.size w1 w'))
  rw [hc'] at C
  have M := fun w1 (h : Kc w c w1) => (Machine4_any w1 c hc nt nr n N hnt hnr hn hN (u : Int) (by omega) hu).mono (fun e w' hh => (by
    obtain ⟨q, h1, h2⟩ := hh
    have hB : Below w1.heap.size w1 w' := by obtain ⟨_, _, _, _, _, _, _, _, _, _, _, _, _, _, _, _, hB3⟩ := h2; exact hB3
    exact ⟨q, h1, h2, h.below hB⟩ : ∃ q, e = .returned (.pointer (some ⟨q.b, 0, none⟩)) ∧ Mq0 w1 w' q c (u : Int) nt nr n N ∧ Kc w c w'))
  have K0 : Kc w c (w.alloc (cfgO c)) := ⟨(Below.refl _ _).alloc (Nat.le_refl _) _, heap_alloc_new w _⟩
  have X0 := K0.cells
  unfold cfgO at K0 X0
  obtain ⟨x0, x1, x2, x3, x4, x5, x6⟩ := X0
  unfold Cf.val at NW M ⊢
  have d0 : decide ((u : Int) < 0) = false := by simp
  have d1 : decide (c.a5 < (u : Int)) = false := by simp; omega
  replace NW := Mr.hid NW
  replace C := Mr.hid C
  replace M := Mr.hid M
  replace K0 := Mr.hid K0
  clear hc hc' hN hnr hnt hn p1 p2 p3 p4 p5 p6 p7 p8 q0 hu
  go_enter Try.func3, Try.ntmps3
  go_upto_region 12 with (first | (go_at_call 4; refine (NW.out _ K0.out).mono ?_; clear NW; rintro e w1 ⟨ba, rfl, K1, hbo⟩; obtain ⟨y0, y1, y2, y3, y4, y5, y6⟩ := K1.cells; replace K1 := Mr.hid K1; replace hbo := Mr.hid hbo) | (go_at_call 5; refine (C.out _ K1.out).mono ?_; clear C; rintro e w2 ⟨rfl, K2, hB2⟩; obtain ⟨z0, z1, z2, z3, z4, z5, z6⟩ := K2.cells; replace hbo := Mr.hid (hbo.out w2 hB2); replace K2 := Mr.hid K2; clear hB2) | (go_at_call 6; refine (num_any _ _).mono ?_; rintro e wn ⟨rfl, rfl⟩) | (go_at_call 7; refine (M.out _ K2.out).mono ?_; clear M; rintro e w3 ⟨q, rfl, hq, K3⟩; obtain ⟨v0, v1, v2, v3, v4, v5, v6⟩ := K3.cells; replace hbo := Mr.hid (hbo.out w3 q hq); clear hq; replace K3 := Mr.hid K3))
  obtain ⟨gst, cst, gho, cho, gt, ct, hbo⟩ := hbo.out
  have P3 : Kp w c ba q.b n nt u gst cst gho cho gt ct w3.drew := Kp.below (w1 := w3) ⟨K3.out, hbo⟩ ((Below.refl _ _).drew)
  obtain ⟨t0, t1, t2, t3, t4, t5, t6⟩ := P3.1.cells
  clear hbo K3 K2 K1 K0 x0 x1 x2 x3 x4 x5 x6 y0 y1 y2 y3 y4 y5 y6 z0 z1 z2 z3 z4 z5 z6
  generalize q.b = b at *
  have CF := P3.config
  unfold Cf.val at CF
  replace CF := Mr.hid CF
  clear P3
  go_region_held3 (fun w' => w'.cell? ⟨w.heap.size, 0, none⟩ = some (.int .i64 c.a0) ∧ w'.cell? ⟨w.heap.size, 1, none⟩ = some (.int .i64 c.a1) ∧ w'.cell? ⟨w.heap.size, 2, none⟩ = some (.int .i64 c.a2) ∧ w'.cell? ⟨w.heap.size, 3, none⟩ = some (.int .i64 c.a3) ∧ w'.cell? ⟨w.heap.size, 4, none⟩ = some (.int .i64 c.a4) ∧ w'.cell? ⟨w.heap.size, 5, none⟩ = some (.int .i64 c.a5) ∧ w'.cell? ⟨w.heap.size, 6, none⟩ = some (.int .i64 c.a6)) (first | exact X4.out | exact X5.out | exact X6.out | exact X7.out | go_keep)
    (first
      | (go_at_call 8; refine CF.out.mono ?_; clear CF; rintro e w4 ⟨rfl, P4⟩; have X4 := Mr.hid P4.1.cells; replace P4 := Mr.hid P4)
      | (go_at_call 9; first
          | (refine (P6.out.shows _).mono ?_; rintro e w7 ⟨rfl, P7⟩; have X7 := Mr.hid P7.1.cells; replace P7 := Mr.hid P7)
          | (refine (P5.out.shows _).mono ?_; rintro e w6 ⟨rfl, P6⟩; have X6 := Mr.hid P6.1.cells; replace P6 := Mr.hid P6)
          | (refine (P4.out.shows _).mono ?_; rintro e w5 ⟨rfl, P5⟩; have X5 := Mr.hid P5.1.cells; replace P5 := Mr.hid P5)))
  go_wp2
  go_ret
  exact ⟨rfl, P7.out.1.1⟩
theorem law_news (c : Cf) (u : Int) (w : World) :
    Calls Try.prog 3 #[c.val, .int .i64 u] w fun e w' => e = .returned (.bool true) ∧ Below w.heap.size w w' := by
  cases hc : c.ok with
  | false => exact news_bad c hc u w
  | true =>
    by_cases hu : u < 0 ∨ c.a5 < u
    · exact news_range c hc u hu w
    · obtain ⟨x, rfl⟩ : ∃ x : Nat, u = x := ⟨u.toNat, by omega⟩
      exact news_ok c hc x (by omega) w
theorem walk_news (a0 a1 a2 a3 a4 a5 a6 u : Int) (w : World) (_h : (Lit.int .i64 a0).wf = true ∧ (Lit.int .i64 a1).wf = true ∧ (Lit.int .i64 a2).wf = true ∧ (Lit.int .i64 a3).wf = true ∧ (Lit.int .i64 a4).wf = true ∧ (Lit.int .i64 a5).wf = true ∧ (Lit.int .i64 a6).wf = true) (_h1 : (Lit.int .i64 u).wf = true) :
    Calls Try.prog 3 #[.agg #[.int .i64 a0, .int .i64 a1, .int .i64 a2, .int .i64 a3, .int .i64 a4, .int .i64 a5, .int .i64 a6], .int .i64 u] w fun e w' => e = .returned (.bool true) ∧ Below w.heap.size w w' := law_news ⟨a0, a1, a2, a3, a4, a5, a6⟩ u w
end Go.Proofs.Ytkimmfdicohoiaa.Ar
