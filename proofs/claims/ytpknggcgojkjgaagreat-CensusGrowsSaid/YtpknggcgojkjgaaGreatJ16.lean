import Derived.Test.YtpknggcgojkjgaaGreatJ15
/-
  CENSUS: goesTogether, where all goes together.
-/
namespace Go.Proofs.YtpknggcgojkjgaaGreat.Cn
open Go.RowKit Mr Md
set_option linter.unusedVariables false
set_option linter.unusedSimpArgs false
set_option maxRecDepth 100000
def stV (c : Nat → Int) (used : Int) (V0 V1 V2 V3 ev : Value) : Value := .agg #[.int .i64 (c 0), .int .i64 (c 1), .int .i64 (c 2), .int .i64 (c 3), .int .i64 (c 4), .int .i64 (c 5), .int .i64 (c 6), .int .i64 used, V0, V1, V2, V3, ev]
def stO (c : Nat → Int) (used : Int) (V0 V1 V2 V3 ev : Value) : Obj := .cells #[.int .i64 (c 0), .int .i64 (c 1), .int .i64 (c 2), .int .i64 (c 3), .int .i64 (c 4), .int .i64 (c 5), .int .i64 (c 6), .int .i64 used, V0, V1, V2, V3, ev] 78 (0, 0)
structure StAt (w : World) (b o : Nat) (c : Nat → Int) (used : Int) (V0 V1 V2 V3 ev : Value) : Prop where
  lt : b < w.heap.size
  c0 : w.cell? ⟨b, o, none⟩ = some (.int .i64 (c 0))
  c1 : w.cell? ⟨b, o + 1, none⟩ = some (.int .i64 (c 1))
  c2 : w.cell? ⟨b, o + 2, none⟩ = some (.int .i64 (c 2))
  c3 : w.cell? ⟨b, o + 3, none⟩ = some (.int .i64 (c 3))
  c4 : w.cell? ⟨b, o + 4, none⟩ = some (.int .i64 (c 4))
  c5 : w.cell? ⟨b, o + 5, none⟩ = some (.int .i64 (c 5))
  c6 : w.cell? ⟨b, o + 6, none⟩ = some (.int .i64 (c 6))
  c7 : w.cell? ⟨b, o + 7, none⟩ = some (.int .i64 used)
  c8 : w.cell? ⟨b, o + 8, none⟩ = some (V0)
  c9 : w.cell? ⟨b, o + 9, none⟩ = some (V1)
  c10 : w.cell? ⟨b, o + 10, none⟩ = some (V2)
  c11 : w.cell? ⟨b, o + 11, none⟩ = some (V3)
  c12 : w.cell? ⟨b, o + 12, none⟩ = some (ev)
theorem stO_cells {w : World} {b : Nat} {c : Nat → Int} {used : Int} {V0 V1 V2 V3 ev : Value} (h : w.heap[b]? = some (stO c used V0 V1 V2 V3 ev)) : StAt w b 0 c used V0 V1 V2 V3 ev := by
  have hlt := (Array.getElem?_eq_some_iff.1 h).1
  unfold stO at h
  exact ⟨hlt, by simp [World.cell?, h], by simp [World.cell?, h], by simp [World.cell?, h], by simp [World.cell?, h], by simp [World.cell?, h], by simp [World.cell?, h], by simp [World.cell?, h], by simp [World.cell?, h], by simp [World.cell?, h], by simp [World.cell?, h], by simp [World.cell?, h], by simp [World.cell?, h], by simp [World.cell?, h]⟩
def okC (c0 : Int) (c : Cq) : Prop := 0 ≤ c.th ∧ c.th < c0 ∧ Tim c ∧ Anw c
/-- The judge at the beginning. -/
def jg0 (n used : Int) (wd : List Int) : Jg := ⟨fun _ => 0, fun _ => 0, 0, fun _ => false, wd, sk0 n used⟩
def jm (K : Jc) (sh : List Sx) : Nat → Jg → Ev → Jg × Bool
  | 0, s, e => ({ s with cnt := fun _ => 0, thr := e.th }, true)
  | 1, s, e => rowM (jst1 s e) (jbb1 s e) 4
  | 3, s, e => rowM (jst3 K sh s e) (jbb3 K sh s e) 5
  | 5, s, e => (s, closeB s.cnt)
  | _, s, e => (s, true)
/-- Events that may come here. -/
def EvOk (sh : List Sx) (e : Ev) : Prop := (e.kd = 1 ∧ 0 ≤ e.th ∧ e.th < 16) ∨ (e.kd = 3 ∧ ∃ (m : Nat) (x : Sx), e.nb = (m : Int) ∧ sh[m]? = some x ∧ e.th = x.th)
theorem jcells (K : Jc) (n used : Int) (wd : List Int) {w : World} {b : Nat} {t : TypeId} (h : w.heap[b]? = some (.cells #[.int .i64 0, .int .i64 0, .int .i64 0, .int .i64 0, .int .i64 0, .int .i64 0, .int .i64 (K.c 0), .int .i64 (K.c 1), .int .i64 (K.c 2), .int .i64 (K.c 3), .int .i64 (K.c 4), .int .i64 (K.c 5), .int .i64 (K.c 6), .int .i64 K.used, K.v0, K.v1, K.v2, K.v3, K.ev, K.wv, .pointer (some ⟨K.bs, 0, none⟩), .int .i64 0, .int .i64 0, .int .i64 0, .int .i64 0, .int .i64 0, .int .i64 0, .int .i64 0, .bool false, .bool false, .bool false, .bool false, .bool false, .bool false, .bool false, .bool false, .bool false, .bool false, .bool false, .bool false, .bool false, .bool false, .bool false, .bool false] t (0, 0))) : Box w b 44 (jf K (jg0 n used wd)) := by
  refine ⟨_, _, h, fun k hk => ?_⟩
  have : k = 0 ∨ k = 1 ∨ k = 2 ∨ k = 3 ∨ k = 4 ∨ k = 5 ∨ k = 6 ∨ k = 7 ∨ k = 8 ∨ k = 9 ∨ k = 10 ∨ k = 11 ∨ k = 12 ∨ k = 13 ∨ k = 14 ∨ k = 15 ∨ k = 16 ∨ k = 17 ∨ k = 18 ∨ k = 19 ∨ k = 20 ∨ k = 21 ∨ k = 22 ∨ k = 23 ∨ k = 24 ∨ k = 25 ∨ k = 26 ∨ k = 27 ∨ k = 28 ∨ k = 29 ∨ k = 30 ∨ k = 31 ∨ k = 32 ∨ k = 33 ∨ k = 34 ∨ k = 35 ∨ k = 36 ∨ k = 37 ∨ k = 38 ∨ k = 39 ∨ k = 40 ∨ k = 41 ∨ k = 42 ∨ k = 43 := by omega
  rcases this with rfl | rfl | rfl | rfl | rfl | rfl | rfl | rfl | rfl | rfl | rfl | rfl | rfl | rfl | rfl | rfl | rfl | rfl | rfl | rfl | rfl | rfl | rfl | rfl | rfl | rfl | rfl | rfl | rfl | rfl | rfl | rfl | rfl | rfl | rfl | rfl | rfl | rfl | rfl | rfl | rfl | rfl | rfl | rfl <;> rfl
/-- What watching keeps. -/
def Ji (T : Nat → Prop) (K : Jc) (bj n g1 g2 gw : Nat) (cs : List Cq) (tr : List Ax) (sh : List Sx) (wl : List Int) (i : Nat) (s : Jg) (w : World) : Prop := Jw w T K bj n g1 g2 gw cs tr sh wl s ∧ Bd i s
theorem jst1_bd {i : Nat} {s : Jg} (h : Bd i s) {e : Ev} (hk : e.kd.toNat < 6) : ∀ j, Bd (i + 1) (jst1 s e j)
  | 0 => h.next | 1 => h.jc hk | 2 => h.jc hk | 3 => h.jo hk | _ + 4 => h.jo hk
theorem jst3_bd {K : Jc} {sh : List Sx} {i : Nat} {s : Jg} (h : Bd i s) {e : Ev} (hk : e.kd.toNat < 6) : ∀ j, Bd (i + 1) (jst3 K sh s e j)
  | 0 => h.next | 1 => h.jc hk | 2 => h.jc hk | 3 => h.jo hk | 4 => h.jo hk | _ + 5 => by
    show Bd (i + 1) (if shiftB (K.c 5) s.sl (sxAt sh e) then { jo s e with sl := s.sl.turn (sxAt sh e) } else jo s e)
    split
    · exact h.jo hk
    · exact h.jo hk
theorem jwatch {w : World} {T T' Te : Nat → Prop} {K : Jc} {bj n g1 g2 gw : Nat} {cs : List Cq} {tr : List Ax} {sh : List Sx} {wl : List Int} {s : Jg} {v0 v1 v2 v3 v4 v5 : Value} {es : List Ev} (h : Jw w T K bj n g1 g2 gw cs tr sh wl s) (hB : Bd 0 s) (hc5 : K.c 5 = (n : Int)) (hc0 : K.c 0 ≤ 16)
    (r0 : Frow w T' v0 [jfv 60 bj, jfv 149 bj]) (r1 : Frow w T' v1 [jfv 62 bj, jfv 150 bj, jfv 151 bj, jfv 152 bj])
    (r3 : Frow w T' v3 [jfv 62 bj, jfv 150 bj, jfv 151 bj, jfv 153 bj, jfv 155 bj]) (r5 : Frow w T' v5 [jfv 157 bj])
    (hT' : ∀ j, T' j → ¬ Js bj K.bs g1 g2 gw j) (hev : Sl w Te 4 K.ev es.length (evs es)) (hTe : ∀ j, Te j → ¬ Js bj K.bs g1 g2 gw j) (hsm : es.length * 32 ≤ 281474976710656) (hes : ∀ (i : Nat) (e : Ev), es[i]? = some e → EvOk sh e) :
    Calls Tryz.prog 46 #[tabV v0 v1 v2 v3 v4 v5, K.ev] w fun r w' => r = .returned (.bool (watchN (jm K sh) es s es.length).2) ∧ Jw w' T K bj n g1 g2 gw cs tr sh wl (watchN (jm K sh) es s es.length).1 ∧ Fr w w' (Js bj K.bs g1 g2 gw) := by
  have rows : ∀ w1, Fr w w1 (Js bj K.bs g1 g2 gw) → ∀ {v : Value} {fs : List Fv}, Frow w T' v fs → Frow w1 T' v fs := fun w1 hf v fs hr => Sl.fr hr hf (fun k hk _ => hT' k hk)
  refine (watch_any (σ := Jg) (S := Js bj K.bs g1 g2 gw) hev hsm (js_lt h) hTe (Ji T K bj n g1 g2 gw cs tr sh wl) (fun i s w1 w2 hi hB => ⟨hi.1.below hB, hi.2⟩) (jm K sh) ?_ ?_ ?_ s ⟨h, hB⟩).mono ?_
  · intro i e he s w1 hi hf
    refine (jopn_row hi.1 (rows w1 hf r0) hT' e).mono ?_
    rintro r w2 ⟨rfl, hJ, hF⟩
    exact ⟨rfl, ⟨hJ, fun k hk => ⟨⟨Int.le_refl _, by show (0 : Int) ≤ i; omega⟩, (hi.2 k hk).2⟩⟩, hF⟩
  · intro i e he s w1 hi hf
    have hlt := (List.getElem?_eq_some_iff.1 he).1
    rcases hes i e he with ⟨hk, ht⟩ | ⟨hk, m, x, hm, hx, hth⟩
    · have e1 : e.kd.toNat = 1 := by omega
      refine (jbeg_row (i := i) hi.1 hi.2 (by omega) (rows w1 hf r1) hT' e hk ht).mono ?_
      rintro r w2 ⟨rfl, hJ, hF⟩
      rw [e1]
      exact ⟨rfl, ⟨hJ, jst1_bd hi.2 (by omega) _⟩, hF⟩
    · have e1 : e.kd.toNat = 3 := by omega
      refine (jshf_row (i := i) hi.1 hi.2 (by omega) hc5 hc0 (rows w1 hf r3) hT' e hk m x hm hx hth).mono ?_
      rintro r w2 ⟨rfl, hJ, hF⟩
      rw [e1]
      exact ⟨rfl, ⟨hJ, jst3_bd hi.2 (by omega) _⟩, hF⟩
  · intro i e he s w1 hi hf
    have hlt := (List.getElem?_eq_some_iff.1 he).1
    refine (jcls_row hi.1 (fun k hk => ⟨(hi.2 k hk).1.1, by have := (hi.2 k hk).1.2; omega⟩) (rows w1 hf r5) hT' e).mono ?_
    rintro r w2 ⟨rfl, hJ, hF⟩
    exact ⟨rfl, ⟨hJ, hi.2⟩, hF⟩
  · rintro r w' ⟨rfl, ⟨j, _, hJ⟩, hF⟩
    exact ⟨rfl, hJ.1, hF⟩
end Go.Proofs.YtpknggcgojkjgaaGreat.Cn
/-
  CENSUS: goesTogether answers yes.
-/
namespace Go.Proofs.YtpknggcgojkjgaaGreat.Cn
open Go.RowKit Mr Md
set_option linter.unusedVariables false
set_option linter.unusedSimpArgs false
set_option maxRecDepth 100000
theorem box_sl {w : World} {T : Nat → Prop} {gw : Nat} {l : List Int} (h : Rw w gw l.length (wdF l)) (hT : T gw) (n : Nat) (hn : n = l.length) : Sl w T 1 (.slice (some ⟨gw, 0, none⟩) n n) l.length (ws l) := by
  subst hn
  refine ⟨by simp [ws], _, _, rfl, Nat.le_refl _, .inr ⟨gw, 0, rfl, hT, h.lt, fun j u hu => ?_⟩⟩
  have hj : j < l.length := by have := (List.getElem?_eq_some_iff.1 hu).1; simpa [ws] using this
  rw [Nat.zero_add, h.cell j hj, ← hu, ws_get l j hj]
  rfl
section
variable {W : World} {T : Nat → Prop}
theorem Sl.lt {size n : Nat} {v : Value} {xs : List Value} (h : Sl W T size v n xs) : Sl W (fun k => T k ∧ k < W.heap.size) size v n xs := by
  obtain ⟨h1, a, cap, hv, hc, h2⟩ := h
  refine ⟨h1, a, cap, hv, hc, h2.imp id ?_⟩
  rintro ⟨b, o, ha, hb, hl, hr⟩
  exact ⟨b, o, ha, ⟨hb, hl⟩, hl, hr⟩
theorem RunAt.lt {v0 v1 v2 v3 : Value} {cs : List Cq} {tr : List Ax} {sh : List Sx} {wl : List Int} (h : RunAt W T v0 v1 v2 v3 cs tr sh wl) : RunAt W (fun k => T k ∧ k < W.heap.size) v0 v1 v2 v3 cs tr sh wl := ⟨Sl.lt h.calls, Sl.lt h.trace, Sl.lt h.shifts, Sl.lt h.words⟩
end
theorem sk0_ok (n used : Nat) (hu : used ≤ n) : (sk0 n used).Ok n := by
  intro i hi
  unfold sk0
  simp only
  split
  · exact ⟨by omega, by omega, by omega⟩
  · exact ⟨by omega, by omega, by omega⟩
set_option maxHeartbeats 16000000 in
theorem goes_true {W : World} {T Te : Nat → Prop} {c : Nat → Int} {n used : Nat} {V0 V1 V2 V3 ev : Value} {gw : Nat} {wd : List Int} {cs : List Cq} {tr : List Ax} {sh : List Sx} {wl : List Int} {es : List Ev} (hr : RunAt W T V0 V1 V2 V3 cs tr sh wl) (hT : ∀ k, T k → k ≠ gw) (hw : Rw W gw wd.length (wdF wd)) (hwl : wd.length ≤ 100000) (hlen : wl.length = wd.length) (hc5 : c 5 = (n : Int)) (hn : n ≤ 1024) (hu : used ≤ n) (hc0 : c 0 ≤ 16)
    (hev : Sl W Te 4 ev es.length (evs es)) (hTe : ∀ k, Te k → k ≠ gw) (hsm : es.length * 32 ≤ 281474976710656) (hcs : cs.length ≤ 1000000000000000) (hes : ∀ (i : Nat) (e : Ev), es[i]? = some e → EvOk sh e) (hok : ∀ x ∈ cs, okC (c 0) x)
    (hpass : ∀ K : Jc, K.c = c → (watchN (jm K sh) es (jg0 n used wd) es.length).2 = true ∧ (watchN (jm K sh) es (jg0 n used wd) es.length).1.wds = wl) :
    Calls Tryz.prog 78 #[stV c used V0 V1 V2 V3 ev, .slice (some ⟨gw, 0, none⟩) wd.length wd.length] W fun r w' => r = .returned (.bool true) ∧ Fr W w' (fun k => k = gw) := by
  obtain ⟨a0, p0, rfl, hp0⟩ := hr.calls.form
  obtain ⟨nc, hnc⟩ : ∃ nc, nc = cs.length := ⟨_, rfl⟩
  have hRB : Hid (∀ w', Below W.heap.size W w' → RunAt w' T (.slice a0 cs.length p0) V1 V2 V3 cs tr sh wl) := fun w' hB => hr.below hB
  have hb : Hid ((W.alloc (stO c used (.slice a0 cs.length p0) V1 V2 V3 ev)).heap[W.heap.size]? = some (stO c used (.slice a0 cs.length p0) V1 V2 V3 ev)) := heap_alloc_new _ _
  have hB : Hid (Below W.heap.size W (W.alloc (stO c used (.slice a0 cs.length p0) V1 V2 V3 ev))) := (Below.refl _ _).alloc (Nat.le_refl _) _
  unfold stV
  rw [← hnc] at hb hB hcs ⊢
  unfold stO at hb hB
  replace hlen := Mr.hid hlen
  replace hnc := Mr.hid hnc
  replace hok := Mr.hid hok
  replace hpass := Mr.hid hpass
  replace hes := Mr.hid hes
  replace hw := Mr.hid hw
  replace hr := Mr.hid hr
  replace hev := Mr.hid hev
  replace hT := Mr.hid hT
  replace hTe := Mr.hid hTe
  replace hc5 := Mr.hid hc5
  replace hc0 := Mr.hid hc0
  clear hp0
  go_enter Tryz.func78, Tryz.ntmps78
  go_upto_region 1 with (fail)
  generalize (W.alloc _) = wa at *
  generalize hBe : W.heap.size = B at *
  replace hBe := Mr.hid hBe
  have hl : B < wa.heap.size := (Array.getElem?_eq_some_iff.1 hb.out).1
  have hKp : Hid (∀ w', Below wa.heap.size wa w' → StAt w' B 0 c used (.slice a0 nc p0) V1 V2 V3 ev) := fun w' h => stO_cells ((h.block B hl).trans hb.out)
  have s0 := hKp.out wa (Below.refl _ _)
  obtain ⟨sl, s0, s1, s2, s3, s4, s5, s6, s7, s8, s9, s10, s11, s12⟩ := s0
  simp only [Nat.zero_add] at s0 s1 s2 s3 s4 s5 s6 s7 s8 s9 s10 s11 s12
  go_upto_region 2 with (fail)
  clear sl s0 s1 s2 s3 s4 s5 s6 s7 s8 s9 s10 s11 s12
  go_loopg [12] nc (fun gk s12 wr => ∃ i : Nat, s12 = .int .i64 (i : Int) ∧ i + gk = nc ∧ Below wa.heap.size wa wr)
  case atStart => exact ⟨0, rfl, by omega, Below.refl _ _⟩
  case round =>
    obtain ⟨i, rfl, hi, Bw⟩ := hrel
    by_cases hlt : i < nc
    · obtain ⟨x, hx⟩ : ∃ x, cs[i]? = some x := ⟨cs[i]'(by have := hnc.out; omega), List.getElem?_eq_getElem _⟩
      have hokx := hok.out x (List.mem_of_getElem? hx)
      have hBW : Below B W wr := hB.out.trans (Bw.mono (Nat.le_of_lt hl))
      obtain ⟨bc, oc, rfl, _, A9⟩ := cqx_at (hRB.out _ hBW).calls hx
      obtain ⟨hcl, g0, g1, g2, g3, g4, g5, g6, g7, g8⟩ := A9
      have hlI : (i : Int) < (nc : Int) := by omega
      have CW := cwithin_any x.th (c 0)
      rw [decide_eq_true hokx.1, decide_eq_true hokx.2.1] at CW
      have CT := timely_any x
      rw [decide_eq_true hokx.2.2.1] at CT
      have CA := answered_any x
      rw [decide_eq_true hokx.2.2.2] at CA
      unfold Cq.val at CT CA
      have X0 : Hid ((wr.alloc (cqO x)).heap[wr.heap.size]? = some (cqO x)) := heap_alloc_new _ _
      have X1 : Hid (Below wa.heap.size wa (wr.alloc (cqO x))) := Bw.alloc Bw.size _
      unfold cqO at X0 X1
      replace CW := Mr.hid CW
      replace CT := Mr.hid CT
      replace CA := Mr.hid CA
      replace hokx := Mr.hid hokx
      replace hx := Mr.hid hx
      replace hBW := Mr.hid hBW
      replace Bw := Mr.hid Bw
      go_upto_region 4 with (fail)
      clear g0 g1 g2 g3 g4 g5 g6 g7 g8 hcl
      generalize (wr.alloc _) = w5 at *
      generalize wr.heap.size = bx at *
      obtain ⟨k0, k1, k2, k3, k4, k5, k6, k7, k8, kl⟩ := cq_cells (c := x) X0.out
      obtain ⟨sl, s0, s1, s2, s3, s4, s5, s6, s7, s8, s9, s10, s11, s12⟩ := hKp.out w5 X1.out
      simp only [Nat.zero_add] at s0 s1 s2 s3 s4 s5 s6 s7 s8 s9 s10 s11 s12
      clear s1 s2 s3 s4 s5 s6 s7 s8 s9 s10 s11 s12
      go_wp2_with (first | (go_at_call 118; refine (CW.out _).mono ?_; clear CW; rintro e w6 ⟨rfl, rfl⟩) | (go_at_call 119; refine (CT.out _).mono ?_; clear CT; rintro e w7 ⟨rfl, hB7⟩; have X2 := Mr.hid (X1.out.trans (hB7.mono X1.out.size)); have X3 := Mr.hid ((hB7.block _ (Array.getElem?_eq_some_iff.1 X0.out).1).trans X0.out); clear X1 X0 k0 k1 k2 k3 k4 k5 k6 k7 k8 kl hB7 sl s0; obtain ⟨k0, k1, k2, k3, k4, k5, k6, k7, k8, kl⟩ := cq_cells (c := x) X3.out) | (go_at_call 120; refine (CA.out _).mono ?_; clear CA; rintro e w8 ⟨rfl, hB8⟩; have X4 := Mr.hid (X2.out.trans (hB8.mono X2.out.size)); clear X2 X3 k0 k1 k2 k3 k4 k5 k6 k7 k8 kl hB8))
      go_roundg (gk - 1)
      case measure => omega
      case rel => exact ⟨i + 1, by simp, by omega, X4.out⟩
    · have q1 : decide ((i : Int) < (nc : Int)) = false := decide_eq_false (by omega)
      have q2 : decide (i < nc) = false := decide_eq_false hlt
      obtain ⟨sl, s0, s1, s2, s3, s4, s5, s6, s7, s8, s9, s10, s11, s12⟩ := hKp.out wr Bw
      simp only [Nat.zero_add] at s0 s1 s2 s3 s4 s5 s6 s7 s8 s9 s10 s11 s12
      have hBW : Below B W wr := hB.out.trans (Bw.mono (Nat.le_of_lt hl))
      have SC := Mr.hid (slotsOf_any c n used hc5.out hn hu)
      unfold cfgV at SC
      have KK7 : Hid (∀ w', Below wr.heap.size wr w' → w'.cell? ⟨B, 0, none⟩ = some (.int .i64 (c 0)) ∧ w'.cell? ⟨B, 1, none⟩ = some (.int .i64 (c 1)) ∧ w'.cell? ⟨B, 2, none⟩ = some (.int .i64 (c 2)) ∧ w'.cell? ⟨B, 3, none⟩ = some (.int .i64 (c 3)) ∧ w'.cell? ⟨B, 4, none⟩ = some (.int .i64 (c 4)) ∧ w'.cell? ⟨B, 5, none⟩ = some (.int .i64 (c 5)) ∧ w'.cell? ⟨B, 6, none⟩ = some (.int .i64 (c 6)) ∧ w'.cell? ⟨B, 7, none⟩ = some (.int .i64 used) ∧ w'.cell? ⟨B, 8, none⟩ = some (.slice a0 nc p0) ∧ w'.cell? ⟨B, 9, none⟩ = some (V1) ∧ w'.cell? ⟨B, 10, none⟩ = some (V2) ∧ w'.cell? ⟨B, 11, none⟩ = some (V3) ∧ w'.cell? ⟨B, 12, none⟩ = some (ev)) := fun w' h => ⟨(h.cell (p := ⟨B, _, none⟩) sl).trans s0, (h.cell (p := ⟨B, _, none⟩) sl).trans s1, (h.cell (p := ⟨B, _, none⟩) sl).trans s2, (h.cell (p := ⟨B, _, none⟩) sl).trans s3, (h.cell (p := ⟨B, _, none⟩) sl).trans s4, (h.cell (p := ⟨B, _, none⟩) sl).trans s5, (h.cell (p := ⟨B, _, none⟩) sl).trans s6, (h.cell (p := ⟨B, _, none⟩) sl).trans s7, (h.cell (p := ⟨B, _, none⟩) sl).trans s8, (h.cell (p := ⟨B, _, none⟩) sl).trans s9, (h.cell (p := ⟨B, _, none⟩) sl).trans s10, (h.cell (p := ⟨B, _, none⟩) sl).trans s11, (h.cell (p := ⟨B, _, none⟩) sl).trans s12⟩
      have hD : Below wr.heap.size wr wr.drew := (Below.refl _ _).drew
      have Bw' := Mr.hid Bw
      replace Bw := Mr.hid Bw
      replace hBW := Mr.hid hBW
      go_upto_region 7 with (fail)
      go_region_held3 (fun w' => w'.cell? ⟨B, 0, none⟩ = some (.int .i64 (c 0)) ∧ w'.cell? ⟨B, 1, none⟩ = some (.int .i64 (c 1)) ∧ w'.cell? ⟨B, 2, none⟩ = some (.int .i64 (c 2)) ∧ w'.cell? ⟨B, 3, none⟩ = some (.int .i64 (c 3)) ∧ w'.cell? ⟨B, 4, none⟩ = some (.int .i64 (c 4)) ∧ w'.cell? ⟨B, 5, none⟩ = some (.int .i64 (c 5)) ∧ w'.cell? ⟨B, 6, none⟩ = some (.int .i64 (c 6)) ∧ w'.cell? ⟨B, 7, none⟩ = some (.int .i64 used) ∧ w'.cell? ⟨B, 8, none⟩ = some (.slice a0 nc p0) ∧ w'.cell? ⟨B, 9, none⟩ = some (V1) ∧ w'.cell? ⟨B, 10, none⟩ = some (V2) ∧ w'.cell? ⟨B, 11, none⟩ = some (V3) ∧ w'.cell? ⟨B, 12, none⟩ = some (ev)) (first | exact KK7.out _ (by assumption) | go_keep) (first | (go_at_call 43; refine (SC.out _).mono ?_; rintro e wS ⟨hBS, bs, g1, g2, rfl, hSw, hu0, hu1, hu2⟩; have hBS2 : Below wr.heap.size wr wS := ⟨hBS.os, hBS.tape, hBS.output, hBS.size, hBS.block⟩; clear hBS))
      replace hu0 : wr.heap.size ≤ bs := hu0
      replace hu1 : wr.heap.size ≤ g1 := hu1
      replace hu2 : wr.heap.size ≤ g2 := hu2
      have hlS := hSw.box.lt
      have hl1 := hSw.r1.lt
      have hl2 := hSw.r2.lt
      have hrs := hBS2.size
      have hws := hBW.out.size
      have hgw : gw < B := by have := hw.out.lt; rw [hBe.out] at this; exact this
      have hBwr : B ≤ wr.heap.size := by have := hBW.out.size; rw [hBe.out] at this; exact this
      have hjb : Hid ((wS.alloc (.cells #[.int .i64 0, .int .i64 0, .int .i64 0, .int .i64 0, .int .i64 0, .int .i64 0, .int .i64 (c 0), .int .i64 (c 1), .int .i64 (c 2), .int .i64 (c 3), .int .i64 (c 4), .int .i64 (c 5), .int .i64 (c 6), .int .i64 used, .slice a0 nc p0, V1, V2, V3, ev, .slice (some ⟨gw, 0, none⟩) wd.length wd.length, .pointer (some ⟨bs, 0, none⟩), .int .i64 0, .int .i64 0, .int .i64 0, .int .i64 0, .int .i64 0, .int .i64 0, .int .i64 0, .bool false, .bool false, .bool false, .bool false, .bool false, .bool false, .bool false, .bool false, .bool false, .bool false, .bool false, .bool false, .bool false, .bool false, .bool false, .bool false] 175 (0, 0))).heap[wS.heap.size]? = some (.cells #[.int .i64 0, .int .i64 0, .int .i64 0, .int .i64 0, .int .i64 0, .int .i64 0, .int .i64 (c 0), .int .i64 (c 1), .int .i64 (c 2), .int .i64 (c 3), .int .i64 (c 4), .int .i64 (c 5), .int .i64 (c 6), .int .i64 used, .slice a0 nc p0, V1, V2, V3, ev, .slice (some ⟨gw, 0, none⟩) wd.length wd.length, .pointer (some ⟨bs, 0, none⟩), .int .i64 0, .int .i64 0, .int .i64 0, .int .i64 0, .int .i64 0, .int .i64 0, .int .i64 0, .bool false, .bool false, .bool false, .bool false, .bool false, .bool false, .bool false, .bool false, .bool false, .bool false, .bool false, .bool false, .bool false, .bool false, .bool false, .bool false] 175 (0, 0))) := heap_alloc_new _ _
      have hBj : Hid (Below wr.heap.size wr (wS.alloc (.cells #[.int .i64 0, .int .i64 0, .int .i64 0, .int .i64 0, .int .i64 0, .int .i64 0, .int .i64 (c 0), .int .i64 (c 1), .int .i64 (c 2), .int .i64 (c 3), .int .i64 (c 4), .int .i64 (c 5), .int .i64 (c 6), .int .i64 used, .slice a0 nc p0, V1, V2, V3, ev, .slice (some ⟨gw, 0, none⟩) wd.length wd.length, .pointer (some ⟨bs, 0, none⟩), .int .i64 0, .int .i64 0, .int .i64 0, .int .i64 0, .int .i64 0, .int .i64 0, .int .i64 0, .bool false, .bool false, .bool false, .bool false, .bool false, .bool false, .bool false, .bool false, .bool false, .bool false, .bool false, .bool false, .bool false, .bool false, .bool false, .bool false] 175 (0, 0)))) := hBS2.alloc hBS2.size _
      have hSwj : Hid (Sw (wS.alloc (.cells #[.int .i64 0, .int .i64 0, .int .i64 0, .int .i64 0, .int .i64 0, .int .i64 0, .int .i64 (c 0), .int .i64 (c 1), .int .i64 (c 2), .int .i64 (c 3), .int .i64 (c 4), .int .i64 (c 5), .int .i64 (c 6), .int .i64 used, .slice a0 nc p0, V1, V2, V3, ev, .slice (some ⟨gw, 0, none⟩) wd.length wd.length, .pointer (some ⟨bs, 0, none⟩), .int .i64 0, .int .i64 0, .int .i64 0, .int .i64 0, .int .i64 0, .int .i64 0, .int .i64 0, .bool false, .bool false, .bool false, .bool false, .bool false, .bool false, .bool false, .bool false, .bool false, .bool false, .bool false, .bool false, .bool false, .bool false, .bool false, .bool false] 175 (0, 0))) n bs g1 g2 (sk0 n used)) := hSw.below ((Below.refl _ _).alloc (Nat.le_refl _) _)
      have hsj : (wS.alloc (.cells #[.int .i64 0, .int .i64 0, .int .i64 0, .int .i64 0, .int .i64 0, .int .i64 0, .int .i64 (c 0), .int .i64 (c 1), .int .i64 (c 2), .int .i64 (c 3), .int .i64 (c 4), .int .i64 (c 5), .int .i64 (c 6), .int .i64 used, .slice a0 nc p0, V1, V2, V3, ev, .slice (some ⟨gw, 0, none⟩) wd.length wd.length, .pointer (some ⟨bs, 0, none⟩), .int .i64 0, .int .i64 0, .int .i64 0, .int .i64 0, .int .i64 0, .int .i64 0, .int .i64 0, .bool false, .bool false, .bool false, .bool false, .bool false, .bool false, .bool false, .bool false, .bool false, .bool false, .bool false, .bool false, .bool false, .bool false, .bool false, .bool false] 175 (0, 0))).heap.size = wS.heap.size + 1 := by simp
      clear hSw hBS2
      obtain ⟨bj, hbj⟩ : ∃ bj, bj = wS.heap.size := ⟨_, rfl⟩
      rw [← hbj] at hjb hsj hlS hl1 hl2 hrs ⊢
      clear hbj
      generalize (wS.alloc _) = wj at *
      have hBWj : Below B W wj := hBW.out.trans (hBj.out.mono hBwr)
      have hRj : RunAt wj (fun k => T k ∧ k < B) (.slice a0 nc p0) V1 V2 V3 cs tr sh wl := by
        have h1 := hr.out.lt
        rw [hBe.out] at h1
        have h2 := h1.below (show Below W.heap.size W wj by rw [hBe.out]; exact hBWj)
        rw [← hnc.out] at h2
        exact h2
      have hej : Sl wj (fun k => Te k ∧ k < B) 4 ev es.length (evs es) := by
        have h1 := Sl.lt hev.out
        rw [hBe.out] at h1
        exact h1.below (show Below W.heap.size W wj by rw [hBe.out]; exact hBWj)
      have hwj : Rw wj gw wd.length (wdF wd) := hw.out.below (show Below W.heap.size W wj by rw [hBe.out]; exact hBWj)
      obtain ⟨K, hK⟩ : ∃ K : Jc, K = ⟨c, used, .slice a0 nc p0, V1, V2, V3, ev, .slice (some ⟨gw, 0, none⟩) wd.length wd.length, bs⟩ := ⟨_, rfl⟩
      have hJ0 : Hid (Jw wj (fun k => T k ∧ k < B) K bj n g1 g2 gw cs tr sh wl (jg0 n used wd)) := by
        rw [hK]
        refine ⟨jcells ⟨c, used, .slice a0 nc p0, V1, V2, V3, ev, .slice (some ⟨gw, 0, none⟩) wd.length wd.length, bs⟩ n used wd hjb.out, hSwj.out, hwj, hRj, ?_, by show bj ≠ bs; omega, by omega, by omega, by omega, by show gw ≠ bs; omega, by omega, by omega, sk0_ok n used hu⟩
        rintro k ⟨hk, hkB⟩ (e | e | e | e | e)
        · omega
        · have e' : k = bs := e
          omega
        · omega
        · omega
        · exact hT.out k hk e
      have hKc : K.c = c := by rw [hK]
      have hKe : K.ev = ev := by rw [hK]
      have hKw : K.wv = .slice (some ⟨gw, 0, none⟩) wd.length wd.length := by rw [hK]
      have hKb : K.bs = bs := by rw [hK]
      obtain ⟨hp1, hp2⟩ := hpass.out K hKc
      have KK : Hid (∀ w', Below wj.heap.size wj w' → w'.cell? ⟨B, 12, none⟩ = some ev ∧ w'.cell? ⟨bj, 19, none⟩ = some (.slice (some ⟨gw, 0, none⟩) wd.length wd.length) ∧ w'.cell? ⟨B, 11, none⟩ = some V3) := fun w' h => by
        have hBl : B < wj.heap.size := by omega
        have a1 := (KK7.out wj hBj.out)
        refine ⟨(h.cell (p := ⟨B, _, none⟩) hBl).trans a1.2.2.2.2.2.2.2.2.2.2.2.2, (h.cell (p := ⟨bj, _, none⟩) (by show bj < _; omega)).trans ?_, (h.cell (p := ⟨B, _, none⟩) hBl).trans a1.2.2.2.2.2.2.2.2.2.2.2.1⟩
        rw [jb_19 hJ0.out.box, hKw]
      have CT := Mr.hid (jtable_any bj)
      unfold tabV at CT
      have CWt : Hid (∀ wt, Below wj.heap.size wj wt → ∀ tv0 tv1 tv2 tv3 tv4 tv5, Frow wt (fun k => wj.heap.size ≤ k) tv0 [jfv 60 bj, jfv 149 bj] → Frow wt (fun k => wj.heap.size ≤ k) tv1 [jfv 62 bj, jfv 150 bj, jfv 151 bj, jfv 152 bj] → Frow wt (fun k => wj.heap.size ≤ k) tv3 [jfv 62 bj, jfv 150 bj, jfv 151 bj, jfv 153 bj, jfv 155 bj] → Frow wt (fun k => wj.heap.size ≤ k) tv5 [jfv 157 bj] →
          Calls Tryz.prog 46 #[.agg #[tv0, tv1, tv2, tv3, tv4, tv5], ev] wt fun r w' => r = .returned (.bool true) ∧ (w'.cell? ⟨B, 12, none⟩ = some ev ∧ w'.cell? ⟨bj, 19, none⟩ = some (.slice (some ⟨gw, 0, none⟩) wd.length wd.length) ∧ w'.cell? ⟨B, 11, none⟩ = some V3) ∧ B < w'.heap.size ∧ bj < w'.heap.size ∧ Jw w' (fun k => T k ∧ k < B) K bj n g1 g2 gw cs tr sh wl (watchN (jm K sh) es (jg0 n used wd) es.length).1 ∧ Fr wt w' (Js bj K.bs g1 g2 gw)) := by
        intro wt hBt tv0 tv1 tv2 tv3 tv4 tv5 f0 f1 f3 f5
        have hJt := hJ0.out.below hBt
        have := jwatch (T' := fun k => wj.heap.size ≤ k) (v2 := tv2) (v4 := tv4) hJt (fun k hk => ⟨⟨Int.le_refl _, Int.le_refl _⟩, Int.le_refl _, Int.le_refl _⟩) (by rw [hKc]; exact hc5.out) (by rw [hKc]; exact hc0.out) f0 f1 f3 f5 (fun j hj e => by
          have := js_lt hJ0.out j e
          omega) (Te := fun k => Te k ∧ k < B) (es := es) (by rw [hKe]; exact hej.below hBt) (fun j hj e => by
          obtain ⟨hj1, hj2⟩ := hj
          rcases e with e | e | e | e | e
          · omega
          · rw [hKb] at e; omega
          · omega
          · omega
          · exact hTe.out j hj1 e) hsm hes.out
        rw [hKe] at this
        refine Calls.mono this ?_
        rintro r w' ⟨rfl, hJ, hF⟩
        have hBl : B < wt.heap.size := Nat.lt_of_lt_of_le (by omega) hBt.size
        have nB : ¬ Js bj K.bs g1 g2 gw B := by
          rintro (e | e | e | e | e)
          · omega
          · rw [hKb] at e; omega
          · omega
          · omega
          · omega
        have hk := KK.out wt hBt
        have eB := hF.block B hBl nB
        refine ⟨by rw [hp1], ⟨by rw [← hk.1]; simp [World.cell?, eB], by rw [jb_19 hJ.box, hKw], by rw [← hk.2.2]; simp [World.cell?, eB]⟩, Nat.lt_of_lt_of_le hBl hF.size, hJ.box.lt, hJ, hF⟩
      have CE : Hid (∀ wv, Jw wv (fun k => T k ∧ k < B) K bj n g1 g2 gw cs tr sh wl (watchN (jm K sh) es (jg0 n used wd) es.length).1 → Calls Tryz.prog 122 #[.slice (some ⟨gw, 0, none⟩) wd.length wd.length, V3] wv fun e w' => e = .returned (.bool true) ∧ Below wv.heap.size wv w') := by
        intro wv hJ
        have h1 := box_sl (T := fun _ => True) hJ.wd trivial wd.length (by rw [hp2]; exact hlen.out.symm)
        rw [hp2] at h1
        have h2 := hJ.run.words
        rw [hK] at h2
        exact equalW_any h1 h2 (by have := hlen.out; omega) true (by simp)
      have hS8 := KK.out wj.drew ((Below.refl _ _).drew)
      replace hJ0 := Mr.hid hJ0
      replace hRj := Mr.hid hRj
      replace hej := Mr.hid hej
      replace hwj := Mr.hid hwj
      replace hK := Mr.hid hK
      replace hKc := Mr.hid hKc
      replace hKe := Mr.hid hKe
      replace hKw := Mr.hid hKw
      replace hp1 := Mr.hid hp1
      replace hp2 := Mr.hid hp2
      replace hBWj := Mr.hid hBWj
      clear KK7 SC hD s0 s1 s2 s3 s4 s5 s6 s7 s8 s9 s10 s11 s12 sl
      go_upto_region 8 with (fail)
      refine wp_region_held_drew (S := (fun w' => w'.cell? ⟨B, 12, none⟩ = some ev ∧ w'.cell? ⟨bj, 19, none⟩ = some (.slice (some ⟨gw, 0, none⟩) wd.length wd.length) ∧ w'.cell? ⟨B, 11, none⟩ = some V3)) (by kernel_rfl) hS8 (fun hS => ?_)
      try simp only [Act.put, List.getElem_toArray, List.getElem_cons_zero, List.getElem_cons_succ, List.setIfInBounds_toArray, List.set_cons_zero, List.set_cons_succ]
      refine wpAnyH_take (i := 0) (v := .pointer (some ⟨bj, 0, none⟩)) rfl (by kernel_rfl) (by kernel_rfl) (by kernel_rfl) (fun _ _ _ h => h) (Or.inl ⟨by kernel_rfl, fun w' hw => ?q0⟩) hS ?_
      case q0 =>
        clear hS
        have hw2 := hw
        go_simp
      try simp only [Act.put, List.getElem_toArray, List.getElem_cons_zero, List.getElem_cons_succ, List.setIfInBounds_toArray, List.set_cons_zero, List.set_cons_succ]
      refine wpAnyH_take (i := 2) (v := .pointer (some ⟨B, 12, none⟩)) rfl (by kernel_rfl) (by kernel_rfl) (by kernel_rfl) (fun _ _ _ h => h) (Or.inl ⟨by kernel_rfl, fun w' hw => ?q2⟩) hS ?_
      case q2 =>
        clear hS
        have hw2 := hw
        go_simp
      try simp only [Act.put, List.getElem_toArray, List.getElem_cons_zero, List.getElem_cons_succ, List.setIfInBounds_toArray, List.set_cons_zero, List.set_cons_succ]
      refine wpAnyH_take (i := 3) (v := ev) rfl (by kernel_rfl) (by kernel_rfl) (by kernel_rfl) (fun _ _ _ h => h) (Or.inl ⟨by kernel_rfl, fun w' hw => ?q3⟩) hS ?_
      case q3 =>
        clear hS
        obtain ⟨hw0, hw1, hw2⟩ := hw
        go_simp
      try simp only [Act.put, List.getElem_toArray, List.getElem_cons_zero, List.getElem_cons_succ, List.setIfInBounds_toArray, List.set_cons_zero, List.set_cons_succ]
      refine wpAnyH_ready (rs := [1]) (by kernel_rfl) (by simp) ?_
      refine AllReadyH.cons rfl (fun K hK => ?_) AllReadyH.nil
      try simp only [Act.put, List.getElem_toArray, List.getElem_cons_zero, List.getElem_cons_succ, List.setIfInBounds_toArray, List.set_cons_zero, List.set_cons_succ]
      go_simp
      go_wp2_with (go_at_call 121; refine (CT.out _).mono ?_; rintro e wt ⟨hBt, tv0, tv1, tv2, tv3, tv4, tv5, rfl, f0, f1, f2, f3, f4, f5⟩; have hBt2 : Below wj.heap.size wj wt := ⟨hBt.os, hBt.tape, hBt.output, hBt.size, hBt.block⟩; have hkp := KK.out wt hBt2; replace hBt2 := Mr.hid hBt2; clear hBt; replace f0 := Mr.hid f0; replace f1 := Mr.hid f1; replace f3 := Mr.hid f3; replace f5 := Mr.hid f5; clear f2 f4)
      try (go_wp2_with fail)
      refine hK.out _ _ (hkp) (fun hS => ?_)
      clear hK K
      try simp only [Act.put, List.getElem_toArray, List.getElem_cons_zero, List.getElem_cons_succ, List.setIfInBounds_toArray, List.set_cons_zero, List.set_cons_succ]
      refine wpAnyH_ready (rs := [4]) (by kernel_rfl) (by simp) ?_
      refine AllReadyH.cons rfl (fun K hK => ?_) AllReadyH.nil
      try simp only [Act.put, List.getElem_toArray, List.getElem_cons_zero, List.getElem_cons_succ, List.setIfInBounds_toArray, List.set_cons_zero, List.set_cons_succ]
      go_simp
      go_wp2_with (go_at_call 46; refine (CWt.out wt hBt2.out tv0 tv1 tv2 tv3 tv4 tv5 f0.out f1.out f3.out f5.out).mono ?_; rintro e wv ⟨rfl, hkp, hbl8, hjl8, hJv, hFv⟩; replace hJv := Mr.hid hJv; replace hFv := Mr.hid hFv)
      try (go_wp2_with fail)
      refine hK.out _ _ (hkp) (fun hS => ?_)
      clear hK K
      try simp only [Act.put, List.getElem_toArray, List.getElem_cons_zero, List.getElem_cons_succ, List.setIfInBounds_toArray, List.set_cons_zero, List.set_cons_succ]
      refine wpAnyH_take (i := 5) (v := .bool true) rfl (by kernel_rfl) (by kernel_rfl) (by kernel_rfl) (fun _ _ _ h => h) (Or.inl ⟨by kernel_rfl, fun w' hw => ?q5⟩) hS ?_
      case q5 =>
        clear hS
        have hw2 := hw
        go_simp
      try simp only [Act.put, List.getElem_toArray, List.getElem_cons_zero, List.getElem_cons_succ, List.setIfInBounds_toArray, List.set_cons_zero, List.set_cons_succ]
      refine wpAnyH_take (i := 6) (v := .pointer (some ⟨bj, 0, none⟩)) rfl (by kernel_rfl) (by kernel_rfl) (by kernel_rfl) (fun _ _ _ h => h) (Or.inl ⟨by kernel_rfl, fun w' hw => ?q6⟩) hS ?_
      case q6 =>
        clear hS
        have hw2 := hw
        go_simp
      try simp only [Act.put, List.getElem_toArray, List.getElem_cons_zero, List.getElem_cons_succ, List.setIfInBounds_toArray, List.set_cons_zero, List.set_cons_succ]
      refine wpAnyH_take (i := 7) (v := .pointer (some ⟨bj, 0, none⟩)) rfl (by kernel_rfl) (by kernel_rfl) (by kernel_rfl) (fun _ _ _ h => h) (Or.inl ⟨by kernel_rfl, fun w' hw => ?q7⟩) hS ?_
      case q7 =>
        clear hS
        have hw2 := hw
        go_simp
      try simp only [Act.put, List.getElem_toArray, List.getElem_cons_zero, List.getElem_cons_succ, List.setIfInBounds_toArray, List.set_cons_zero, List.set_cons_succ]
      refine wpAnyH_take (i := 8) (v := .pointer (some ⟨bj, 19, none⟩)) rfl (by kernel_rfl) (by kernel_rfl) (by kernel_rfl) (fun _ _ _ h => h) (Or.inl ⟨by kernel_rfl, fun w' hw => ?q8⟩) hS ?_
      case q8 =>
        clear hS
        have hw2 := hw
        go_simp
      try simp only [Act.put, List.getElem_toArray, List.getElem_cons_zero, List.getElem_cons_succ, List.setIfInBounds_toArray, List.set_cons_zero, List.set_cons_succ]
      refine wpAnyH_take (i := 9) (v := .slice (some ⟨gw, 0, none⟩) wd.length wd.length) rfl (by kernel_rfl) (by kernel_rfl) (by kernel_rfl) (fun _ _ _ h => h) (Or.inl ⟨by kernel_rfl, fun w' hw => ?q9⟩) hS ?_
      case q9 =>
        clear hS
        obtain ⟨hw0, hw1, hw2⟩ := hw
        go_simp
      try simp only [Act.put, List.getElem_toArray, List.getElem_cons_zero, List.getElem_cons_succ, List.setIfInBounds_toArray, List.set_cons_zero, List.set_cons_succ]
      refine wpAnyH_take (i := 10) (v := .pointer (some ⟨B, 8, none⟩)) rfl (by kernel_rfl) (by kernel_rfl) (by kernel_rfl) (fun _ _ _ h => h) (Or.inl ⟨by kernel_rfl, fun w' hw => ?q10⟩) hS ?_
      case q10 =>
        clear hS
        have hw2 := hw
        go_simp
      try simp only [Act.put, List.getElem_toArray, List.getElem_cons_zero, List.getElem_cons_succ, List.setIfInBounds_toArray, List.set_cons_zero, List.set_cons_succ]
      refine wpAnyH_take (i := 11) (v := .pointer (some ⟨B, 11, none⟩)) rfl (by kernel_rfl) (by kernel_rfl) (by kernel_rfl) (fun _ _ _ h => h) (Or.inl ⟨by kernel_rfl, fun w' hw => ?q11⟩) hS ?_
      case q11 =>
        clear hS
        have hw2 := hw
        go_simp
      try simp only [Act.put, List.getElem_toArray, List.getElem_cons_zero, List.getElem_cons_succ, List.setIfInBounds_toArray, List.set_cons_zero, List.set_cons_succ]
      refine wpAnyH_take (i := 12) (v := V3) rfl (by kernel_rfl) (by kernel_rfl) (by kernel_rfl) (fun _ _ _ h => h) (Or.inl ⟨by kernel_rfl, fun w' hw => ?q12⟩) hS ?_
      case q12 =>
        clear hS
        obtain ⟨hw0, hw1, hw2⟩ := hw
        go_simp
      try simp only [Act.put, List.getElem_toArray, List.getElem_cons_zero, List.getElem_cons_succ, List.setIfInBounds_toArray, List.set_cons_zero, List.set_cons_succ]
      refine wpAnyH_ready (rs := [13]) (by kernel_rfl) (by simp) ?_
      refine AllReadyH.cons rfl (fun K hK => ?_) AllReadyH.nil
      try simp only [Act.put, List.getElem_toArray, List.getElem_cons_zero, List.getElem_cons_succ, List.setIfInBounds_toArray, List.set_cons_zero, List.set_cons_succ]
      go_simp
      go_wp2_with (go_at_call 122; refine (CE.out wv hJv.out).mono ?_; rintro e we ⟨rfl, hBe8⟩; have hkp := (⟨(hBe8.cell hbl8).trans hS.1, (hBe8.cell hjl8).trans hS.2.1, (hBe8.cell hbl8).trans hS.2.2⟩ : we.cell? ⟨B, 12, none⟩ = some ev ∧ we.cell? ⟨bj, 19, none⟩ = some (.slice (some ⟨gw, 0, none⟩) wd.length wd.length) ∧ we.cell? ⟨B, 11, none⟩ = some V3); replace hBe8 := Mr.hid hBe8)
      try (go_wp2_with fail)
      refine hK.out _ _ (hkp) (fun hS => ?_)
      clear hK K
      try simp only [Act.put, List.getElem_toArray, List.getElem_cons_zero, List.getElem_cons_succ, List.setIfInBounds_toArray, List.set_cons_zero, List.set_cons_succ]
      refine wpAnyH_take (i := 14) (v := .bool true) rfl (by kernel_rfl) (by kernel_rfl) (by kernel_rfl) (fun _ _ _ h => h) (Or.inl ⟨by kernel_rfl, fun w' hw => ?q14⟩) hS ?_
      case q14 =>
        clear hS
        have hw2 := hw
        go_simp
      try simp only [Act.put, List.getElem_toArray, List.getElem_cons_zero, List.getElem_cons_succ, List.setIfInBounds_toArray, List.set_cons_zero, List.set_cons_succ]
      refine wpAnyH_take (i := 15) (v := .bool true) rfl (by kernel_rfl) (by kernel_rfl) (by kernel_rfl) (fun _ _ _ h => h) (Or.inl ⟨by kernel_rfl, fun w' hw => ?q15⟩) hS ?_
      case q15 =>
        clear hS
        have hw2 := hw
        go_simp
      try simp only [Act.put, List.getElem_toArray, List.getElem_cons_zero, List.getElem_cons_succ, List.setIfInBounds_toArray, List.set_cons_zero, List.set_cons_succ]
      refine wpAnyH_done (by kernel_rfl) ?_ _
      go_wp2
      go_ret
      have B1 : Below W.heap.size W wt := by rw [hBe.out]; exact hBWj.out.trans (hBt2.out.mono (by omega))
      refine ⟨rfl, ((Fr.of_below B1).trans (hFv.out.mono (fun k hk => ?_))).trans ((Fr.of_below hBe8.out).mono (fun k hk => hk))⟩
      rcases hk with e | e | e | e | e
      · right; have := hBe.out; omega
      · right; rw [hKb] at e; have := hBe.out; omega
      · right; have := hBe.out; omega
      · right; have := hBe.out; omega
      · exact .inl e
end Go.Proofs.YtpknggcgojkjgaaGreat.Cn
