import Derived.Test.YtecldhngggkjjaaGreatJ13
import Derived.Test.YtecldhngggkjjaaGreatJ10
import Derived.Test.YtecldhngggkjjaaGreatJ08
import Derived.Test.YtecldhngggkjjaaGreatJ04
import Derived.Deep.LoopGhost
import Derived.Deep.CutRange
set_option linter.unusedVariables false
set_option linter.unusedSimpArgs false
set_option maxRecDepth 100000
namespace Go.Proofs.YtecldhngggkjjaaGreat.Wt
open Go.RowKit Mr Md
structure Dq (W w : World) (v0 v1 v2 v3 v4 : Value) (y : Ct) : Prop where
 bel : Below W.heap.size W w
 res : w.heap[W.heap.size]? = some (ctO (.slice none 0 0) (.slice none 0 0) (.slice none 0 0) (.slice none 0 0) (.slice none 0 0))
 box : w.heap[W.heap.size + 1]? = some (ctO v0 v1 v2 v3 v4)
 at_ : CtAt w (fun k => W.heap.size + 2 ≤ k) v0 v1 v2 v3 v4 y
theorem Dq.below {W w w' : World} {v0 v1 v2 v3 v4 : Value} {y : Ct} (h : Dq W w v0 v1 v2 v3 v4 y) (hB : Below w.heap.size w w') : Dq W w' v0 v1 v2 v3 v4 y :=
 ⟨h.bel.trans (hB.mono h.bel.size), (hB.block _ (Array.getElem?_eq_some_iff.1 h.res).1).trans h.res, (hB.block _ (Array.getElem?_eq_some_iff.1 h.box).1).trans h.box, h.at_.below hB⟩
theorem Dq.next {W w : World} {u0 u1 u2 u3 u4 v0 v1 v2 v3 v4 : Value} {y z : Ct} (h : Dq W w u0 u1 u2 u3 u4 y) (hz : CtAt w (fun k => W.heap.size + 2 ≤ k) v0 v1 v2 v3 v4 z) : Dq W (set5 w (W.heap.size + 1) v0 v1 v2 v3 v4) v0 v1 v2 v3 v4 z :=
 ⟨set5_below v0 v1 v2 v3 v4 h.bel (by omega), (set5_far w (W.heap.size + 1) v0 v1 v2 v3 v4 _ (by omega)).trans h.res, set5_at v0 v1 v2 v3 v4 h.box, hz.fr (set5_fr w (W.heap.size + 1) v0 v1 v2 v3 v4) (fun k hk _ e => by subst e; omega)⟩
theorem Dq.first (W : World) : Dq W ((W.alloc (ctO (.slice none 0 0) (.slice none 0 0) (.slice none 0 0) (.slice none 0 0) (.slice none 0 0))).alloc (ctO (.slice none 0 0) (.slice none 0 0) (.slice none 0 0) (.slice none 0 0) (.slice none 0 0))) (.slice none 0 0) (.slice none 0 0) (.slice none 0 0) (.slice none 0 0) (.slice none 0 0) ct0 :=
 ⟨((Below.refl _ _).alloc (Nat.le_refl _) _).alloc (by simp) _, old_at (new_at _ _ _ rfl) _, new_at _ _ _ (by simp), ct0_at _ _⟩
set_option maxHeartbeats 16000000 in
theorem rPlay_any {W : World} {T T' : Nat → Prop} {v u : Value} {cs : List Cq} {o : List Int} (hv : Sl W T 9 v cs.length (cqs cs)) (hu : Sl W T' 1 u o.length (ints o)) (hsm : cs.length * 72 ≤ 140737488355328) (hO : IsOrd cs o) (ok : Bool) (hb : ok = true ↔ okTo ct0 (ordc cs o) o.length) :
  Calls Tryz.prog 40 #[v, u] W fun e w' => ∃ v0 v1 v2 v3 v4, e = .returned (.tuple #[.agg #[v0, v1, v2, v3, v4], .bool ok]) ∧ CtAt w' (fun k => W.heap.size ≤ k) v0 v1 v2 v3 v4 (if ok then lefts ct0 (ordc cs o) o.length else ct0) ∧ Below W.heap.size W w' := by
 obtain ⟨a, cap, rfl, hcap⟩ := hv.form
 obtain ⟨au, cu, rfl, hcu⟩ := hu.form
 have hol0 := hO.len
 obtain ⟨os, hos⟩ : ∃ os, os = ordc cs o := ⟨_, rfl⟩
 have LI := fun i => lefts_in (ct0_in 0) os i
 rw [← hos] at hb ⊢
 obtain ⟨n, hn⟩ : ∃ n, n = cs.length := ⟨_, rfl⟩
 obtain ⟨m, hm⟩ : ∃ m, m = o.length := ⟨_, rfl⟩
 rw [← hn, ← hm]
 rw [← hn] at hsm
 rw [← hm] at hu hcu hb hol0
 rw [← hn] at hol0
 obtain ⟨r, hr⟩ : ∃ r, r = (if ok then lefts ct0 os m else ct0) := ⟨_, rfl⟩
 rw [← hr]
 replace hr := Mr.hid hr
 have hD0 := Dq.first W
 unfold ctO at hD0
 replace hn := Mr.hid hn
 replace hm := Mr.hid hm
 replace hv := Mr.hid hv
 replace hu := Mr.hid hu
 replace hb := Mr.hid hb
 replace hO := Mr.hid hO
 replace hos := Mr.hid hos
 replace LI := Mr.hid LI
 replace hD0 := Mr.hid hD0
 clear hcap hcu
 go_enter Tryz.func40, Tryz.ntmps40
 go_upto_region 2 with (fail)
 have hD := hD0.out
 clear hD0
 generalize (World.alloc (World.alloc W _) _) = w1 at *
 replace hD := Mr.hid hD
 go_wp2
 go_loopg [7] m (fun k s7 wr => ∃ i : Nat, s7 = .int .i64 (i : Int) ∧ i + k = m ∧ okTo ct0 os i ∧ ∃ v0 v1 v2 v3 v4, Dq W wr v0 v1 v2 v3 v4 (lefts ct0 os i))
 case atStart => exact ⟨0, rfl, by omega, fun j hj => by omega, _, _, _, _, _, hD.out⟩
 case round =>
  clear hD
  obtain ⟨i, rfl, hi, hok, v0, v1, v2, v3, v4, hD⟩ := hrel
  by_cases hlt : i < m
  ·obtain ⟨y, hy⟩ : ∃ y, o[i]? = some y := ⟨o[i]'(by have := hm.out; omega), List.getElem?_eq_getElem _⟩
   obtain ⟨j, c, rfl, hcj, hobj⟩ := hO.out.at hy
   have hci : os[i]? = some c := by rw [hos.out]; exact ordc_get hy hcj
   have hjn : j < n := by rw [hn.out]; exact (List.getElem?_eq_some_iff.1 hcj).1
   have CA := fun w' (hB : Below wr.heap.size wr w') => allows_any (hD.at_.below hB) ((LI.out i).mono (by omega)) c hobj
   obtain ⟨yy, hyy⟩ : ∃ y, y = alw (lefts ct0 os i) c := ⟨_, rfl⟩
   rw [← hyy] at CA
   obtain ⟨bc, oc, rfl, A9⟩ := call_at (hv.out.below hD.bel) hcj
   obtain ⟨hcl, g0, g1, g2, g3, g4, g5, g6, g7, g8⟩ := A9
   obtain ⟨bo, oo, c1, e1, _, _, hol, r1⟩ := (hu.out.below hD.bel).there (by omega)
   cases e1
   have ko := r1 i _ (by rw [ints, List.getElem?_map, hy]; rfl)
   clear r1
   obtain ⟨z0, m0, rfl, _⟩ := hD.at_.cell.form
   obtain ⟨z1, m1, rfl, _⟩ := hD.at_.stack.form
   obtain ⟨z2, m2, rfl, _⟩ := hD.at_.queue.form
   obtain ⟨z3, m3, rfl, _⟩ := hD.at_.set.form
   obtain ⟨z4, m4, rfl, _⟩ := hD.at_.table.form
   obtain ⟨k0, k1, k2, k3, k4, kl⟩ := ctO_cells hD.box
   generalize (lefts ct0 os i).cell.length = l0 at *
   generalize (lefts ct0 os i).stack.length = l1 at *
   generalize (lefts ct0 os i).queue.length = l2 at *
   generalize (lefts ct0 os i).set.length = l3 at *
   generalize (lefts ct0 os i).table.length = l4 at *
   have hjI : (j : Int) < (n : Int) := by omega
   have hlI : (i : Int) < (m : Int) := by omega
   have hw1 : IntKind.i64.wrap ((i : Int) + 1) = (i : Int) + 1 := i64x _ (by omega) (by omega)
   replace hD := Mr.hid hD
   replace CA := Mr.hid CA
   replace hyy := Mr.hid hyy
   replace hci := Mr.hid hci
   replace hcj := Mr.hid hcj
   replace hy := Mr.hid hy
   replace hok := Mr.hid hok
   replace hobj := Mr.hid hobj
   go_upto_region 5 with (fail)
   have MT := fun (b7 : Nat) v0 v1 v2 v3 v4 (wx : World) (h1 : Below wr.heap.size wr wx) (h2 : wx.heap[b7]? = some (ctO v0 v1 v2 v3 v4)) (h3 : CtAt wx (fun k => W.heap.size + 2 ≤ k) v0 v1 v2 v3 v4 yy.1) => (⟨hD.out.below h1, h2, h3⟩ : Dq W wx (.slice z0 l0 m0) (.slice z1 l1 m1) (.slice z2 l2 m2) (.slice z3 l3 m3) (.slice z4 l4 m4) (lefts ct0 os i) ∧ wx.heap[b7]? = some (ctO v0 v1 v2 v3 v4) ∧ CtAt wx (fun k => W.heap.size + 2 ≤ k) v0 v1 v2 v3 v4 yy.1)
   have hw2 : W.heap.size + 2 ≤ wr.heap.size := by have := (Array.getElem?_eq_some_iff.1 hD.out.box).1; omega
   replace MT := Mr.hid MT
   go_cut [8, 9] from 16 to 31 (fun s8 s9 wx => ∃ (b7 : Nat) (v0 v1 v2 v3 v4 : Value), s8 = .pointer (some ⟨b7, 0, none⟩) ∧ s9 = .bool yy.2 ∧ Dq W wx (.slice z0 l0 m0) (.slice z1 l1 m1) (.slice z2 l2 m2) (.slice z3 l3 m3) (.slice z4 l4 m4) (lefts ct0 os i) ∧ wx.heap[b7]? = some (ctO v0 v1 v2 v3 v4) ∧ CtAt wx (fun k => W.heap.size + 2 ≤ k) v0 v1 v2 v3 v4 yy.1)
   case first =>
    go_region_held3 (fun w' => w'.cell? ⟨W.heap.size + 1, 0, none⟩ = some (.slice z0 l0 m0) ∧ w'.cell? ⟨W.heap.size + 1, 1, none⟩ = some (.slice z1 l1 m1) ∧ w'.cell? ⟨W.heap.size + 1, 2, none⟩ = some (.slice z2 l2 m2) ∧ w'.cell? ⟨W.heap.size + 1, 3, none⟩ = some (.slice z3 l3 m3) ∧ w'.cell? ⟨W.heap.size + 1, 4, none⟩ = some (.slice z4 l4 m4) ∧ w'.cell? ⟨bo, oo + i, none⟩ = some (.int .i64 (j : Int)) ∧ w'.cell? ⟨bc, oc + j * 9, none⟩ = some (.int .i64 c.th) ∧ w'.cell? ⟨bc, oc + j * 9 + 1, none⟩ = some (.int .i64 c.op) ∧ w'.cell? ⟨bc, oc + j * 9 + 2, none⟩ = some (.int .i64 c.arg) ∧ w'.cell? ⟨bc, oc + j * 9 + 3, none⟩ = some (.int .i64 c.data) ∧ w'.cell? ⟨bc, oc + j * 9 + 4, none⟩ = some (.int .i64 c.beg) ∧ w'.cell? ⟨bc, oc + j * 9 + 5, none⟩ = some (.int .i64 c.fin) ∧ w'.cell? ⟨bc, oc + j * 9 + 6, none⟩ = some (.int .i64 c.pt) ∧ w'.cell? ⟨bc, oc + j * 9 + 7, none⟩ = some (.int .i64 c.ak) ∧ w'.cell? ⟨bc, oc + j * 9 + 8, none⟩ = some (.int .i64 c.av)) (first | with_reducible exact K5.out | go_keep) (first | (go_at_call 61; refine (CA.out _ (Below.refl _ _).drew).mono ?_; rintro e w4 ⟨v0, v1, v2, v3, v4, rfl, hat4, hB4⟩; have B4 : Below wr.heap.size wr w4 := (((Below.refl _ _).drew).trans hB4); clear hB4 CA; obtain ⟨x0, j0, rfl, _⟩ := hat4.cell.form; obtain ⟨x1, j1, rfl, _⟩ := hat4.stack.form; obtain ⟨x2, j2, rfl, _⟩ := hat4.queue.form; obtain ⟨x3, j3, rfl, _⟩ := hat4.set.form; obtain ⟨x4, j4, rfl, _⟩ := hat4.table.form; have hD4 := hD.out.below B4; obtain ⟨k0, k1, k2, k3, k4, kl4⟩ := ctO_cells hD4.box; have g0 := (B4.cell (p := ⟨bc, oc + j * 9, none⟩) hcl).trans g0; have g1 := (B4.cell (p := ⟨bc, oc + j * 9 + 1, none⟩) hcl).trans g1; have g2 := (B4.cell (p := ⟨bc, oc + j * 9 + 2, none⟩) hcl).trans g2; have g3 := (B4.cell (p := ⟨bc, oc + j * 9 + 3, none⟩) hcl).trans g3; have g4 := (B4.cell (p := ⟨bc, oc + j * 9 + 4, none⟩) hcl).trans g4; have g5 := (B4.cell (p := ⟨bc, oc + j * 9 + 5, none⟩) hcl).trans g5; have g6 := (B4.cell (p := ⟨bc, oc + j * 9 + 6, none⟩) hcl).trans g6; have g7 := (B4.cell (p := ⟨bc, oc + j * 9 + 7, none⟩) hcl).trans g7; have g8 := (B4.cell (p := ⟨bc, oc + j * 9 + 8, none⟩) hcl).trans g8; have ko := (B4.cell (p := ⟨bo, oo + i, none⟩) hol).trans ko; have hcl4 : bc < w4.heap.size := Nat.lt_of_lt_of_le hcl B4.size; have hol4 : bo < w4.heap.size := Nat.lt_of_lt_of_le hol B4.size; clear hD4; have E5 := MT.out w4.heap.size _ _ _ _ _ (w4.alloc (ctO (.slice x0 yy.1.cell.length j0) (.slice x1 yy.1.stack.length j1) (.slice x2 yy.1.queue.length j2) (.slice x3 yy.1.set.length j3) (.slice x4 yy.1.table.length j4))) (B4.alloc B4.size _) (new_at _ _ _ rfl) ((hat4.mono (fun k hk => Nat.le_trans hw2 hk)).below ((Below.refl _ _).alloc (Nat.le_refl _) _)); clear hat4; unfold ctO at E5; replace E5 := Mr.hid E5; replace B4 := Mr.hid B4) | (go_at_call 61; refine (CA.out _ ((Below.refl _ _).alloc (Nat.le_refl _) _).drew).mono ?_; rintro e w4 ⟨v0, v1, v2, v3, v4, rfl, hat4, hB4⟩; have B4 : Below wr.heap.size wr w4 := (((Below.refl _ _).alloc (Nat.le_refl _) _).drew.trans (hB4.mono (by simp))); have bx4 := (hB4.block wr.heap.size (by simp)).trans (new_at wr nil5 _ rfl); clear hB4 CA; obtain ⟨h0, h1, h2, h3, h4, hl4⟩ := ctO_cells bx4; obtain ⟨e0, e1, e2, e3, e4⟩ := ctO_thaw bx4; obtain ⟨x0, j0, rfl, _⟩ := hat4.cell.form; obtain ⟨x1, j1, rfl, _⟩ := hat4.stack.form; obtain ⟨x2, j2, rfl, _⟩ := hat4.queue.form; obtain ⟨x3, j3, rfl, _⟩ := hat4.set.form; obtain ⟨x4, j4, rfl, _⟩ := hat4.table.form; have hD4 := hD.out.below B4; obtain ⟨k0, k1, k2, k3, k4, kl4⟩ := ctO_cells hD4.box; have g0 := (B4.cell (p := ⟨bc, oc + j * 9, none⟩) hcl).trans g0; have g1 := (B4.cell (p := ⟨bc, oc + j * 9 + 1, none⟩) hcl).trans g1; have g2 := (B4.cell (p := ⟨bc, oc + j * 9 + 2, none⟩) hcl).trans g2; have g3 := (B4.cell (p := ⟨bc, oc + j * 9 + 3, none⟩) hcl).trans g3; have g4 := (B4.cell (p := ⟨bc, oc + j * 9 + 4, none⟩) hcl).trans g4; have g5 := (B4.cell (p := ⟨bc, oc + j * 9 + 5, none⟩) hcl).trans g5; have g6 := (B4.cell (p := ⟨bc, oc + j * 9 + 6, none⟩) hcl).trans g6; have g7 := (B4.cell (p := ⟨bc, oc + j * 9 + 7, none⟩) hcl).trans g7; have g8 := (B4.cell (p := ⟨bc, oc + j * 9 + 8, none⟩) hcl).trans g8; have ko := (B4.cell (p := ⟨bo, oo + i, none⟩) hol).trans ko; have hcl4 : bc < w4.heap.size := Nat.lt_of_lt_of_le hcl B4.size; have hol4 : bo < w4.heap.size := Nat.lt_of_lt_of_le hol B4.size; clear hD4; have E5 := MT.out wr.heap.size _ _ _ _ _ (set5 w4 wr.heap.size (.slice x0 yy.1.cell.length j0) (.slice x1 yy.1.stack.length j1) (.slice x2 yy.1.queue.length j2) (.slice x3 yy.1.set.length j3) (.slice x4 yy.1.table.length j4)) (set5_below _ _ _ _ _ B4 (Nat.le_refl _)) (set5_at _ _ _ _ _ bx4) ((hat4.mono (T' := fun k => wr.heap.size + 1 ≤ k) (fun k hk => by simpa using hk)).fr (set5_fr w4 wr.heap.size _ _ _ _ _) (fun k hk _ e => by subst e; omega) |>.mono (fun k hk => by omega)); have K5 := And.intro (far5 (b := wr.heap.size) (v0 := (.slice x0 yy.1.cell.length j0)) (v1 := (.slice x1 yy.1.stack.length j1)) (v2 := (.slice x2 yy.1.queue.length j2)) (v3 := (.slice x3 yy.1.set.length j3)) (v4 := (.slice x4 yy.1.table.length j4)) k0 (by omega)) (And.intro (far5 (b := wr.heap.size) (v0 := (.slice x0 yy.1.cell.length j0)) (v1 := (.slice x1 yy.1.stack.length j1)) (v2 := (.slice x2 yy.1.queue.length j2)) (v3 := (.slice x3 yy.1.set.length j3)) (v4 := (.slice x4 yy.1.table.length j4)) k1 (by omega)) (And.intro (far5 (b := wr.heap.size) (v0 := (.slice x0 yy.1.cell.length j0)) (v1 := (.slice x1 yy.1.stack.length j1)) (v2 := (.slice x2 yy.1.queue.length j2)) (v3 := (.slice x3 yy.1.set.length j3)) (v4 := (.slice x4 yy.1.table.length j4)) k2 (by omega)) (And.intro (far5 (b := wr.heap.size) (v0 := (.slice x0 yy.1.cell.length j0)) (v1 := (.slice x1 yy.1.stack.length j1)) (v2 := (.slice x2 yy.1.queue.length j2)) (v3 := (.slice x3 yy.1.set.length j3)) (v4 := (.slice x4 yy.1.table.length j4)) k3 (by omega)) (And.intro (far5 (b := wr.heap.size) (v0 := (.slice x0 yy.1.cell.length j0)) (v1 := (.slice x1 yy.1.stack.length j1)) (v2 := (.slice x2 yy.1.queue.length j2)) (v3 := (.slice x3 yy.1.set.length j3)) (v4 := (.slice x4 yy.1.table.length j4)) k4 (by omega)) (And.intro (far5 (b := wr.heap.size) (v0 := (.slice x0 yy.1.cell.length j0)) (v1 := (.slice x1 yy.1.stack.length j1)) (v2 := (.slice x2 yy.1.queue.length j2)) (v3 := (.slice x3 yy.1.set.length j3)) (v4 := (.slice x4 yy.1.table.length j4)) ko (by omega)) (And.intro (far5 (b := wr.heap.size) (v0 := (.slice x0 yy.1.cell.length j0)) (v1 := (.slice x1 yy.1.stack.length j1)) (v2 := (.slice x2 yy.1.queue.length j2)) (v3 := (.slice x3 yy.1.set.length j3)) (v4 := (.slice x4 yy.1.table.length j4)) g0 (by omega)) (And.intro (far5 (b := wr.heap.size) (v0 := (.slice x0 yy.1.cell.length j0)) (v1 := (.slice x1 yy.1.stack.length j1)) (v2 := (.slice x2 yy.1.queue.length j2)) (v3 := (.slice x3 yy.1.set.length j3)) (v4 := (.slice x4 yy.1.table.length j4)) g1 (by omega)) (And.intro (far5 (b := wr.heap.size) (v0 := (.slice x0 yy.1.cell.length j0)) (v1 := (.slice x1 yy.1.stack.length j1)) (v2 := (.slice x2 yy.1.queue.length j2)) (v3 := (.slice x3 yy.1.set.length j3)) (v4 := (.slice x4 yy.1.table.length j4)) g2 (by omega)) (And.intro (far5 (b := wr.heap.size) (v0 := (.slice x0 yy.1.cell.length j0)) (v1 := (.slice x1 yy.1.stack.length j1)) (v2 := (.slice x2 yy.1.queue.length j2)) (v3 := (.slice x3 yy.1.set.length j3)) (v4 := (.slice x4 yy.1.table.length j4)) g3 (by omega)) (And.intro (far5 (b := wr.heap.size) (v0 := (.slice x0 yy.1.cell.length j0)) (v1 := (.slice x1 yy.1.stack.length j1)) (v2 := (.slice x2 yy.1.queue.length j2)) (v3 := (.slice x3 yy.1.set.length j3)) (v4 := (.slice x4 yy.1.table.length j4)) g4 (by omega)) (And.intro (far5 (b := wr.heap.size) (v0 := (.slice x0 yy.1.cell.length j0)) (v1 := (.slice x1 yy.1.stack.length j1)) (v2 := (.slice x2 yy.1.queue.length j2)) (v3 := (.slice x3 yy.1.set.length j3)) (v4 := (.slice x4 yy.1.table.length j4)) g5 (by omega)) (And.intro (far5 (b := wr.heap.size) (v0 := (.slice x0 yy.1.cell.length j0)) (v1 := (.slice x1 yy.1.stack.length j1)) (v2 := (.slice x2 yy.1.queue.length j2)) (v3 := (.slice x3 yy.1.set.length j3)) (v4 := (.slice x4 yy.1.table.length j4)) g6 (by omega)) (And.intro (far5 (b := wr.heap.size) (v0 := (.slice x0 yy.1.cell.length j0)) (v1 := (.slice x1 yy.1.stack.length j1)) (v2 := (.slice x2 yy.1.queue.length j2)) (v3 := (.slice x3 yy.1.set.length j3)) (v4 := (.slice x4 yy.1.table.length j4)) g7 (by omega)) (far5 (b := wr.heap.size) (v0 := (.slice x0 yy.1.cell.length j0)) (v1 := (.slice x1 yy.1.stack.length j1)) (v2 := (.slice x2 yy.1.queue.length j2)) (v3 := (.slice x3 yy.1.set.length j3)) (v4 := (.slice x4 yy.1.table.length j4)) g8 (by omega))))))))))))))); unfold set5 at K5; replace K5 := Mr.hid K5; clear hat4 bx4; unfold set5 ctO at E5; replace E5 := Mr.hid E5; replace B4 := Mr.hid B4))
    all_goals
     go_wp2
     go_meet
     case rel => exact ⟨_, _, _, _, _, _, rfl, rfl, E5.out⟩
   case rest =>
    obtain ⟨b7, v0, v1, v2, v3, v4, rfl, rfl, hD5, hb7, hat5⟩ := hcut
    clear MT CA hD k0 k1 k2 k3 k4 g0 g1 g2 g3 g4 g5 g6 g7 g8 ko
    obtain ⟨k0, k1, k2, k3, k4, kl5⟩ := ctO_cells hD5.box
    cases hbq : yy.2 with
    | false =>
     have hqf : ok = false := by
      cases hbb : ok with
      | false => rfl
      | true => have := hb.out.1 hbb i hlt c hci.out; rw [← hyy.out, hbq] at this; cases this
     have hr2 : Hid (r = ct0) := by show r = ct0; rw [hr.out, hqf]; exact if_neg (by decide)
     clear hr hb
     subst hqf
     obtain ⟨e1, e2, e3⟩ := end5a (v0 := (.slice none 0 0)) (v1 := (.slice none 0 0)) (v2 := (.slice none 0 0)) (v3 := (.slice none 0 0)) (v4 := (.slice none 0 0)) hD5.bel (b := W.heap.size) (Nat.le_refl _) hD5.res (ct0_at _ (fun k => W.heap.size + 2 ≤ k)) (fun k hk => by omega)
     obtain ⟨r0, r1, r2, r3, r4, rl⟩ := ctO_cells hD5.res
     obtain ⟨f0, f1, f2, f3, f4⟩ := ctO_thaw hD5.res
     obtain ⟨d0, d1, d2, d3, d4, -⟩ := ctO_cells e3
     unfold set5 at e1 e2 d0 d1 d2 d3 d4
     replace e1 := Mr.hid e1
     replace e2 := Mr.hid e2
     replace hD5 := Mr.hid hD5
     clear e3 hb7 hat5 hbq
     replace d0 := Mr.hid d0
     replace d1 := Mr.hid d1
     replace d2 := Mr.hid d2
     replace d3 := Mr.hid d3
     replace d4 := Mr.hid d4
     go_wp2
     replace d0 := d0.out
     replace d1 := d1.out
     replace d2 := d2.out
     replace d3 := d3.out
     replace d4 := d4.out
     refine bodyPost_ret (v := .tuple #[.agg #[.slice none 0 0, .slice none 0 0, .slice none 0 0, .slice none 0 0, .slice none 0 0], .bool false]) (by simp [results, Tryz.results40, go_sem, d0, d1, d2, d3, d4]) rfl ?_
     exact ⟨_, _, _, _, _, rfl, by rw [hr2.out]; exact e1.out, e2.out⟩
    | true =>
     have hN := hD5.next hat5
     obtain ⟨x0, j0, rfl, _⟩ := hat5.cell.form
     obtain ⟨x1, j1, rfl, _⟩ := hat5.stack.form
     obtain ⟨x2, j2, rfl, _⟩ := hat5.queue.form
     obtain ⟨x3, j3, rfl, _⟩ := hat5.set.form
     obtain ⟨x4, j4, rfl, _⟩ := hat5.table.form
     obtain ⟨y0, y1, y2, y3, y4, yl⟩ := ctO_cells hb7
     obtain ⟨f0, f1, f2, f3, f4⟩ := ctO_thaw hD5.box
     have hok2 := Mr.hid (hok.out.succ hci.out (by rw [← hyy.out]; exact hbq))
     have hle : lefts ct0 os (i + 1) = yy.1 := by rw [lefts_succ ct0 os i c hci.out, hyy.out]
     rw [← hle] at hN
     unfold set5 at hN
     replace hN := Mr.hid hN
     replace hle := Mr.hid hle
     replace hD5 := Mr.hid hD5
     clear hat5 hb7 hbq
     go_wp2
     go_roundg (gk - 1)
     case measure => omega
     case rel => exact ⟨i + 1, by simp, by omega, hok2.out, _, _, _, _, _, by first | exact hN.out | (rw [← hle.out]; exact hN.out) | (rw [hle.out] at hN; exact hN.out)⟩
  ·have hin' : i = m := by omega
   have hqt : ok = true := hb.out.2 (by rw [← hin']; exact hok)
   have hr2 : Hid (r = lefts ct0 os m) := by show r = lefts ct0 os m; rw [hr.out, hqt]; exact if_pos rfl
   clear hr hb
   subst hqt
   rw [hin'] at hD
   obtain ⟨z0, m0, rfl, _⟩ := hD.at_.cell.form
   obtain ⟨z1, m1, rfl, _⟩ := hD.at_.stack.form
   obtain ⟨z2, m2, rfl, _⟩ := hD.at_.queue.form
   obtain ⟨z3, m3, rfl, _⟩ := hD.at_.set.form
   obtain ⟨z4, m4, rfl, _⟩ := hD.at_.table.form
   generalize hlf : lefts ct0 os m = lf at *
   replace hlf := Mr.hid hlf
   generalize hg0 : lf.cell.length = l0 at *
   replace hg0 := Mr.hid hg0
   generalize hg1 : lf.stack.length = l1 at *
   replace hg1 := Mr.hid hg1
   generalize hg2 : lf.queue.length = l2 at *
   replace hg2 := Mr.hid hg2
   generalize hg3 : lf.set.length = l3 at *
   replace hg3 := Mr.hid hg3
   generalize hg4 : lf.table.length = l4 at *
   replace hg4 := Mr.hid hg4
   obtain ⟨k0, k1, k2, k3, k4, kl⟩ := ctO_cells hD.box
   obtain ⟨e1, e2, e3⟩ := end5a (v0 := (.slice z0 l0 m0)) (v1 := (.slice z1 l1 m1)) (v2 := (.slice z2 l2 m2)) (v3 := (.slice z3 l3 m3)) (v4 := (.slice z4 l4 m4)) hD.bel (b := W.heap.size) (Nat.le_refl _) hD.res hD.at_ (fun k hk => by omega)
   obtain ⟨r0, r1, r2, r3, r4, rl⟩ := ctO_cells hD.res
   obtain ⟨f0, f1, f2, f3, f4⟩ := ctO_thaw hD.res
   obtain ⟨d0, d1, d2, d3, d4, -⟩ := ctO_cells e3
   unfold set5 at e1 e2 d0 d1 d2 d3 d4
   replace e1 := Mr.hid e1
   replace e2 := Mr.hid e2
   replace hok := Mr.hid hok
   replace hD := Mr.hid hD
   clear e3 hin'
   replace d0 := Mr.hid d0
   replace d1 := Mr.hid d1
   replace d2 := Mr.hid d2
   replace d3 := Mr.hid d3
   replace d4 := Mr.hid d4
   have hge : decide ((i : Int) < (m : Int)) = false := decide_eq_false (by omega)
   go_wp2
   replace d0 := d0.out
   replace d1 := d1.out
   replace d2 := d2.out
   replace d3 := d3.out
   replace d4 := d4.out
   refine bodyPost_ret (v := .tuple #[.agg #[.slice z0 l0 m0, .slice z1 l1 m1, .slice z2 l2 m2, .slice z3 l3 m3, .slice z4 l4 m4], .bool true]) (by simp [results, Tryz.results40, go_sem, d0, d1, d2, d3, d4]) rfl ?_
   exact ⟨_, _, _, _, _, rfl, by rw [hr2.out]; exact e1.out, e2.out⟩
end Go.Proofs.YtecldhngggkjjaaGreat.Wt
