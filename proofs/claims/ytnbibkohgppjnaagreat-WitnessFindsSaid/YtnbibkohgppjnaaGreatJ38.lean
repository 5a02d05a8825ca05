import Derived.Test.YtnbibkohgppjnaaGreatJ37
import Derived.Test.YtnbibkohgppjnaaGreatJ08
import Derived.Test.YtnbibkohgppjnaaGreatJ04
import Derived.Test.YtnbibkohgppjnaaGreatJ10
import Derived.Deep.LoopGhost
import Derived.Deep.CutRange
import Derived.Test.YtnbibkohgppjnaaGreatJ09
import Derived.OrdersIn
import Derived.WalkKit
import Derived.Test.YtnbibkohgppjnaaGreatShelf
import Derived.Test.YtnbibkohgppjnaaGreatJ13
import Derived.BigQuiet
set_option linter.unusedVariables false
set_option linter.unusedSimpArgs false
set_option maxRecDepth 100000
namespace Go.Proofs.YtnbibkohgppjnaaGreat.Ws
open Go.RowKit Mr Md Wt
def cntM (first : Bool) (n : Nat) : Nat := if first then min n 1 else n
def hd (A : List (List Nat)) : List Nat := A.head?.getD []
theorem hd_app {A : List (List Nat)} (h : A ≠ []) (B : List (List Nat)) : hd (A ++ B) = hd A := by
 cases A with
 | nil => exact absurd rfl h
 | cons a A => rfl
def WkC (cs : List Cq) (x : Ct) (o : List Nat) (first : Bool) (A : List (List Nat)) : Prop :=
 ∀ (W : World) (v u0 u1 u2 u3 u4 vo : Value), Sl W (fun _ => True) 9 v cs.length (cqs cs) → CtAt W (fun _ => True) u0 u1 u2 u3 u4 x → Sl W (fun _ => True) 1 vo o.length (ints (natI o)) →
  Calls Tryz.prog 19 #[v, .agg #[u0, u1, u2, u3, u4], vo, .bool first] W fun e w' => ∃ vr, e = .returned (.tuple #[.int .i64 ((cntM first A.length : Nat) : Int), vr]) ∧ Sl w' (fun k => W.heap.size ≤ k) 1 vr (hd A).length (ints (natI (hd A))) ∧ Below W.heap.size W w'
structure Kw (W : World) (u0 u1 u2 u3 u4 vr : Value) (l : List Nat) (w : World) : Prop where
 bel : Below W.heap.size W w
 box : w.heap[W.heap.size]? = some (ctO u0 u1 u2 u3 u4)
 row : Sl w (fun k => W.heap.size ≤ k) 1 vr l.length (ints (natI l))
theorem Kw.below {W w w' : World} {u0 u1 u2 u3 u4 vr : Value} {l : List Nat} (h : Kw W u0 u1 u2 u3 u4 vr l w) (hB : Below w.heap.size w w') : Kw W u0 u1 u2 u3 u4 vr l w' :=
 ⟨h.bel.trans (hB.mono h.bel.size), (hB.block _ (Array.getElem?_eq_some_iff.1 h.box).1).trans h.box, h.row.below hB⟩
theorem ints_one9 (l : List Int) : ∀ u ∈ ints l, u.oneCell' = true := by
 intro u hu
 obtain ⟨x, _, rfl⟩ := List.mem_map.1 hu
 rfl
set_option maxHeartbeats 32000000 in
theorem walk_core {cs : List Cq} {x : Ct} {o : List Nat} {first : Bool} (G pG : Nat → List (List Nat)) (hsm : cs.length * 72 ≤ 281474976710656) (hol : o.length ≤ 1000) (hoo : ∀ i ∈ o, i < cs.length) (hin : CtIn 1000000 x)
  (hGs : ∀ n, n < cs.length → nxB cs o n = true → (alw x (cd cs n)).2 = true → WkC cs (alw x (cd cs n)).1 (o ++ [n]) first (G n))
  (hG0 : ∀ n, n < cs.length → (nxB cs o n && (alw x (cd cs n)).2) = false → G n = [])
  (P0 : pG 0 = if isB cs o then [o] else []) (PS : ∀ k, pG (k + 1) = pG k ++ G k) (PN : ∀ k, k < cs.length → ∃ z, pG cs.length = (pG k ++ G k) ++ z) (pL : ∀ k, k ≤ cs.length → (pG k).length ≤ 1000000000) :
  WkC cs x o first (pG cs.length) := by
 intro W v u0 u1 u2 u3 u4 vo hv hx ho
 obtain ⟨i0, hi0, hz0, hz1, hz2⟩ := parts_of wt_int
 have RO := fun w' (hB : Below W.heap.size W w') => rIsOrder_any (hv.below hB) (o := natI o) (by rw [natI_len]; exact ho.below hB) hsm (by rw [natI_len]; omega) (isB cs o) isB_iff
 obtain ⟨a, cap, rfl, hcap⟩ := hv.form
 obtain ⟨ao, co, rfl, hco⟩ := ho.form
 have hl1 : (ints (natI o)).length = o.length * 1 := by simp [ints, natI]
 have ho1 := ints_one9 (natI o)
 obtain ⟨hs1, hs2⟩ := sl_src ho
 obtain ⟨z0, m0, rfl, _⟩ := hx.cell.form
 obtain ⟨z1, m1, rfl, _⟩ := hx.stack.form
 obtain ⟨z2, m2, rfl, _⟩ := hx.queue.form
 obtain ⟨z3, m3, rfl, _⟩ := hx.set.form
 obtain ⟨z4, m4, rfl, _⟩ := hx.table.form
 obtain ⟨l0, hg0⟩ : ∃ l, x.cell.length = l := ⟨_, rfl⟩
 obtain ⟨l1, hg1⟩ : ∃ l, x.stack.length = l := ⟨_, rfl⟩
 obtain ⟨l2, hg2⟩ : ∃ l, x.queue.length = l := ⟨_, rfl⟩
 obtain ⟨l3, hg3⟩ : ∃ l, x.set.length = l := ⟨_, rfl⟩
 obtain ⟨l4, hg4⟩ : ∃ l, x.table.length = l := ⟨_, rfl⟩
 rw [hg0, hg1, hg2, hg3, hg4]
 have hx2 : CtAt W (fun _ => True) (.slice z0 l0 m0) (.slice z1 l1 m1) (.slice z2 l2 m2) (.slice z3 l3 m3) (.slice z4 l4 m4) x := by rw [← hg0, ← hg1, ← hg2, ← hg3, ← hg4]; exact hx
 clear hx
 have hx := hx2
 clear hx2
 obtain ⟨n, hn⟩ : ∃ n, n = cs.length := ⟨_, rfl⟩
 obtain ⟨m, hm⟩ : ∃ m, m = o.length := ⟨_, rfl⟩
 have hso : o.length * 8 ≤ 281474976710656 := by omega
 rw [← hn] at hcap RO PN pL ⊢
 rw [← hm] at RO
 rw [← hm] at hco hl1 hs1 hol ⊢
 have hnb : n * 72 ≤ 281474976710656 := by rw [hn]; exact hsm
 replace hn := Mr.hid hn
 replace hm := Mr.hid hm
 replace hv := Mr.hid hv
 replace hx := Mr.hid hx
 replace ho := Mr.hid ho
 replace RO := Mr.hid RO
 replace hl1 := Mr.hid hl1
 replace ho1 := Mr.hid ho1
 replace hs1 := Mr.hid hs1
 replace hs2 := Mr.hid hs2
 replace hGs := Mr.hid hGs
 replace hG0 := Mr.hid hG0
 replace P0 := Mr.hid P0
 replace PS := Mr.hid PS
 replace PN := Mr.hid PN
 replace pL := Mr.hid pL
 replace hg0 := Mr.hid hg0
 replace hg1 := Mr.hid hg1
 replace hg2 := Mr.hid hg2
 replace hg3 := Mr.hid hg3
 replace hg4 := Mr.hid hg4
 have hK00 : Hid (Kw W (.slice z0 l0 m0) (.slice z1 l1 m1) (.slice z2 l2 m2) (.slice z3 l3 m3) (.slice z4 l4 m4) (.slice none 0 0) [] (W.alloc (ctO (.slice z0 l0 m0) (.slice z1 l1 m1) (.slice z2 l2 m2) (.slice z3 l3 m3) (.slice z4 l4 m4)))) := ⟨(Below.refl _ _).alloc (Nat.le_refl _) _, new_at _ _ _ rfl, Sl.nil _ _ _⟩
 unfold ctO at hK00
 go_enter Tryz.func19, Tryz.ntmps19
 go_upto_region 3 with (fail)
 have hK1 := hK00.out
 clear hK00
 generalize (World.alloc W _) = w1 at *
 replace hK1 := Mr.hid hK1
 have ROw := Mr.hid (RO.out _ hK1.out.bel)
 clear RO
 cases hib : isB cs o with
 | false =>
  rw [hib] at ROw
  have hp0 : pG 0 = [] := by rw [P0.out, hib]; rfl
  replace hib := Mr.hid hib
  go_wp2_with (go_at_call 36; refine ROw.out.mono ?_; clear ROw; rintro e w2 ⟨rfl, hB2⟩; replace hK1 := Mr.hid (hK1.out.below hB2); clear hB2)
  have hK0 : Hid (Kw W (.slice z0 l0 m0) (.slice z1 l1 m1) (.slice z2 l2 m2) (.slice z3 l3 m3) (.slice z4 l4 m4) (.slice none 0 0) (hd (pG 0)) w2) := by
   show Kw _ _ _ _ _ _ _ _ _
   rw [hp0]; exact hK1.out
  have hm0 : Hid ((0 : Int) = ((pG 0).length : Int)) := by
   show (0 : Int) = _
   rw [hp0]; rfl
  have hf0 : Hid (first = true → pG 0 = []) := fun _ => hp0
  replace hp0 := Mr.hid hp0
  clear hK1
  go_loopg [10, 11, 12] n (fun q s10 s11 s12 wr => ∃ (k : Nat) (vr : Value) (mi : Int), s10 = .int .i64 mi ∧ vr = s11 ∧ s12 = .int .i64 (k : Int) ∧ k + q = n ∧ mi = ((pG k).length : Int) ∧ (first = true → pG k = []) ∧ Kw W (.slice z0 l0 m0) (.slice z1 l1 m1) (.slice z2 l2 m2) (.slice z3 l3 m3) (.slice z4 l4 m4) vr (hd (pG k)) wr)
  case atStart => exact ⟨0, _, _, rfl, rfl, rfl, by omega, hm0.out, hf0.out, hK0.out⟩
  case round =>
   clear hm0 hf0 hK0
   obtain ⟨k, vr, mi, rfl, rfl, rfl, hk, hmi, hfe, hK⟩ := hrel
   by_cases hlt : k < n
   ·obtain ⟨c, hck⟩ := get_of_lt (cs := cs) (i := k) (by have := hn.out; omega)
    have hcd := cd_get hck
    have NX := rnext_any (hv.out.below hK.bel) (ho.out.below hK.bel) hsm hso hoo (p := k) (by have := hn.out; omega)
    rw [← hn.out, ← hm.out] at NX
    have hlI : (k : Int) < (n : Int) := by omega
    have q0 : (0 : Int) ≤ (k : Int) := by omega
    have hw1 : IntKind.i64.wrap ((k : Int) + 1) = (k : Int) + 1 := i64x _ (by omega) (by omega)
    have hps := PS.out k
    cases hnx : nxB cs o k with
    | false =>
     have hpk : Hid (pG (k + 1) = pG k) := by
      show pG (k + 1) = pG k
      rw [hps, hG0.out k (by have := hn.out; omega) (by rw [hnx]; rfl), List.append_nil]
     rw [hnx] at NX
     replace NX := Mr.hid NX
     replace hK := Mr.hid hK
     replace hmi := Mr.hid hmi
     replace hfe := Mr.hid hfe
     replace hck := Mr.hid hck
     replace hcd := Mr.hid hcd
     replace hnx := Mr.hid hnx
     replace hps := Mr.hid hps
     go_wp2_with (go_at_call 37; refine NX.out.mono ?_; clear NX; rintro e w5 ⟨rfl, hB5⟩; replace hK := Mr.hid (hK.out.below hB5); clear hB5)
     go_roundg (gk - 1)
     case measure => omega
     case rel => exact ⟨k + 1, vr, mi, rfl, rfl, by simp, by omega, by rw [hpk.out]; exact hmi.out, fun e => by rw [hpk.out]; exact hfe.out e, by rw [hpk.out]; exact hK.out⟩
    | true =>
     have hobj : obj c.op ≠ 0 := by
      unfold nxB at hnx
      rw [hcd] at hnx
      simp at hnx
      exact hnx.1.1
     obtain ⟨yy, hyy⟩ : ∃ y, y = alw x c := ⟨_, rfl⟩
     have hGk := hGs.out k (by have := hn.out; omega) hnx
     have hG0k := hG0.out k (by have := hn.out; omega)
     rw [hnx, hcd, ← hyy] at hG0k
     rw [hcd, ← hyy] at hGk
     rw [hnx] at NX
     replace NX := Mr.hid NX
     replace hK := Mr.hid hK
     replace hmi := Mr.hid hmi
     replace hfe := Mr.hid hfe
     replace hcd := Mr.hid hcd
     replace hnx := Mr.hid hnx
     replace hps := Mr.hid hps
     replace hyy := Mr.hid hyy
     replace hck := Mr.hid hck
     replace hGk := Mr.hid hGk
     replace hG0k := Mr.hid hG0k
     replace hobj := Mr.hid hobj
     go_upto_region 12 with (go_at_call 37; refine NX.out.mono ?_; clear NX; rintro e w5 ⟨rfl, hB5⟩; replace hK := Mr.hid (hK.out.below hB5); clear hB5)
     have CA := fun w' (hB : Below w5.heap.size w5 w') => allows_any ((hx.out.below hK.out.bel).below hB) (hin.mono (by decide)) c hobj.out
     rw [← hyy.out] at CA
     replace CA := Mr.hid CA
     obtain ⟨bc, oc, e9, A9⟩ := call_at (hv.out.below hK.out.bel) hck.out
     cases e9
     obtain ⟨hcl, g0, g1, g2, g3, g4, g5, g6, g7, g8⟩ := A9
     obtain ⟨k0, k1, k2, k3, k4, kl⟩ := ctO_cells hK.out.box
     have hw2 : W.heap.size < w5.heap.size := kl
     have MT : Hid (∀ (b7 : Nat) v0 v1 v2 v3 v4 (wx : World) (h1 : Below w5.heap.size w5 wx) (h2 : wx.heap[b7]? = some (ctO v0 v1 v2 v3 v4)) (h3 : CtAt wx (fun _ => True) v0 v1 v2 v3 v4 yy.1), Kw W (.slice z0 l0 m0) (.slice z1 l1 m1) (.slice z2 l2 m2) (.slice z3 l3 m3) (.slice z4 l4 m4) vr (hd (pG k)) wx ∧ wx.heap[b7]? = some (ctO v0 v1 v2 v3 v4) ∧ CtAt wx (fun _ => True) v0 v1 v2 v3 v4 yy.1) := fun b7 v0 v1 v2 v3 v4 wx h1 h2 h3 => ⟨hK.out.below h1, h2, h3⟩
     go_cut [13, 14] from 38 to 46 (fun s13 s14 wx => ∃ (b7 : Nat) (v0 v1 v2 v3 v4 : Value), s13 = .pointer (some ⟨b7, 0, none⟩) ∧ s14 = .bool yy.2 ∧ Kw W (.slice z0 l0 m0) (.slice z1 l1 m1) (.slice z2 l2 m2) (.slice z3 l3 m3) (.slice z4 l4 m4) vr (hd (pG k)) wx ∧ wx.heap[b7]? = some (ctO v0 v1 v2 v3 v4) ∧ CtAt wx (fun _ => True) v0 v1 v2 v3 v4 yy.1)
     case first =>
      go_region_held3 (fun w' => w'.cell? ⟨W.heap.size, 0, none⟩ = some (.slice z0 l0 m0) ∧ w'.cell? ⟨W.heap.size, 1, none⟩ = some (.slice z1 l1 m1) ∧ w'.cell? ⟨W.heap.size, 2, none⟩ = some (.slice z2 l2 m2) ∧ w'.cell? ⟨W.heap.size, 3, none⟩ = some (.slice z3 l3 m3) ∧ w'.cell? ⟨W.heap.size, 4, none⟩ = some (.slice z4 l4 m4) ∧ w'.cell? ⟨bc, oc + k * 9, none⟩ = some (.int .i64 c.th) ∧ w'.cell? ⟨bc, oc + k * 9 + 1, none⟩ = some (.int .i64 c.op) ∧ w'.cell? ⟨bc, oc + k * 9 + 2, none⟩ = some (.int .i64 c.arg) ∧ w'.cell? ⟨bc, oc + k * 9 + 3, none⟩ = some (.int .i64 c.data) ∧ w'.cell? ⟨bc, oc + k * 9 + 4, none⟩ = some (.int .i64 c.beg) ∧ w'.cell? ⟨bc, oc + k * 9 + 5, none⟩ = some (.int .i64 c.fin) ∧ w'.cell? ⟨bc, oc + k * 9 + 6, none⟩ = some (.int .i64 c.pt) ∧ w'.cell? ⟨bc, oc + k * 9 + 7, none⟩ = some (.int .i64 c.ak) ∧ w'.cell? ⟨bc, oc + k * 9 + 8, none⟩ = some (.int .i64 c.av)) (first | with_reducible exact K5.out | go_keep) (first | (go_at_call 38; refine (CA.out _ (Below.refl _ _).drew).mono ?_; rintro e w4 ⟨v0, v1, v2, v3, v4, rfl, hat4, hB4⟩; have B4 : Below w5.heap.size w5 w4 := (((Below.refl _ _).drew).trans hB4); clear hB4 CA; obtain ⟨x0, j0, rfl, _⟩ := hat4.cell.form; obtain ⟨x1, j1, rfl, _⟩ := hat4.stack.form; obtain ⟨x2, j2, rfl, _⟩ := hat4.queue.form; obtain ⟨x3, j3, rfl, _⟩ := hat4.set.form; obtain ⟨x4, j4, rfl, _⟩ := hat4.table.form; have hK4 := hK.out.below B4; obtain ⟨k0, k1, k2, k3, k4, kl4⟩ := ctO_cells hK4.box; have g0 := (B4.cell (p := ⟨bc, oc + k * 9, none⟩) hcl).trans g0; have g1 := (B4.cell (p := ⟨bc, oc + k * 9 + 1, none⟩) hcl).trans g1; have g2 := (B4.cell (p := ⟨bc, oc + k * 9 + 2, none⟩) hcl).trans g2; have g3 := (B4.cell (p := ⟨bc, oc + k * 9 + 3, none⟩) hcl).trans g3; have g4 := (B4.cell (p := ⟨bc, oc + k * 9 + 4, none⟩) hcl).trans g4; have g5 := (B4.cell (p := ⟨bc, oc + k * 9 + 5, none⟩) hcl).trans g5; have g6 := (B4.cell (p := ⟨bc, oc + k * 9 + 6, none⟩) hcl).trans g6; have g7 := (B4.cell (p := ⟨bc, oc + k * 9 + 7, none⟩) hcl).trans g7; have g8 := (B4.cell (p := ⟨bc, oc + k * 9 + 8, none⟩) hcl).trans g8; have hcl4 : bc < w4.heap.size := Nat.lt_of_lt_of_le hcl B4.size; clear hK4; have E5 := MT.out w4.heap.size _ _ _ _ _ (w4.alloc (ctO (.slice x0 yy.1.cell.length j0) (.slice x1 yy.1.stack.length j1) (.slice x2 yy.1.queue.length j2) (.slice x3 yy.1.set.length j3) (.slice x4 yy.1.table.length j4))) (B4.alloc B4.size _) (new_at _ _ _ rfl) ((hat4.mono (fun k hk => trivial)).below ((Below.refl _ _).alloc (Nat.le_refl _) _)); clear hat4; unfold ctO at E5; replace E5 := Mr.hid E5; replace B4 := Mr.hid B4) | (go_at_call 38; refine (CA.out _ ((Below.refl _ _).alloc (Nat.le_refl _) _).drew).mono ?_; rintro e w4 ⟨v0, v1, v2, v3, v4, rfl, hat4, hB4⟩; have B4 : Below w5.heap.size w5 w4 := (((Below.refl _ _).alloc (Nat.le_refl _) _).drew.trans (hB4.mono (by simp))); have bx4 := (hB4.block w5.heap.size (by simp)).trans (new_at w5 nil5 _ rfl); clear hB4 CA; obtain ⟨h0, h1, h2, h3, h4, hl4⟩ := ctO_cells bx4; obtain ⟨e0, e1, e2, e3, e4⟩ := ctO_thaw bx4; obtain ⟨x0, j0, rfl, _⟩ := hat4.cell.form; obtain ⟨x1, j1, rfl, _⟩ := hat4.stack.form; obtain ⟨x2, j2, rfl, _⟩ := hat4.queue.form; obtain ⟨x3, j3, rfl, _⟩ := hat4.set.form; obtain ⟨x4, j4, rfl, _⟩ := hat4.table.form; have hK4 := hK.out.below B4; obtain ⟨k0, k1, k2, k3, k4, kl4⟩ := ctO_cells hK4.box; have g0 := (B4.cell (p := ⟨bc, oc + k * 9, none⟩) hcl).trans g0; have g1 := (B4.cell (p := ⟨bc, oc + k * 9 + 1, none⟩) hcl).trans g1; have g2 := (B4.cell (p := ⟨bc, oc + k * 9 + 2, none⟩) hcl).trans g2; have g3 := (B4.cell (p := ⟨bc, oc + k * 9 + 3, none⟩) hcl).trans g3; have g4 := (B4.cell (p := ⟨bc, oc + k * 9 + 4, none⟩) hcl).trans g4; have g5 := (B4.cell (p := ⟨bc, oc + k * 9 + 5, none⟩) hcl).trans g5; have g6 := (B4.cell (p := ⟨bc, oc + k * 9 + 6, none⟩) hcl).trans g6; have g7 := (B4.cell (p := ⟨bc, oc + k * 9 + 7, none⟩) hcl).trans g7; have g8 := (B4.cell (p := ⟨bc, oc + k * 9 + 8, none⟩) hcl).trans g8; have hcl4 : bc < w4.heap.size := Nat.lt_of_lt_of_le hcl B4.size; clear hK4; have E5 := MT.out w5.heap.size _ _ _ _ _ (set5 w4 w5.heap.size (.slice x0 yy.1.cell.length j0) (.slice x1 yy.1.stack.length j1) (.slice x2 yy.1.queue.length j2) (.slice x3 yy.1.set.length j3) (.slice x4 yy.1.table.length j4)) (set5_below _ _ _ _ _ B4 (Nat.le_refl _)) (set5_at _ _ _ _ _ bx4) ((hat4.mono (T' := fun k => w5.heap.size + 1 ≤ k) (fun k hk => by simpa using hk)).fr (set5_fr w4 w5.heap.size _ _ _ _ _) (fun k hk _ e => by subst e; omega) |>.mono (fun k hk => trivial)); have K5 := And.intro (far5 (b := w5.heap.size) (v0 := (.slice x0 yy.1.cell.length j0)) (v1 := (.slice x1 yy.1.stack.length j1)) (v2 := (.slice x2 yy.1.queue.length j2)) (v3 := (.slice x3 yy.1.set.length j3)) (v4 := (.slice x4 yy.1.table.length j4)) k0 (by omega)) (And.intro (far5 (b := w5.heap.size) (v0 := (.slice x0 yy.1.cell.length j0)) (v1 := (.slice x1 yy.1.stack.length j1)) (v2 := (.slice x2 yy.1.queue.length j2)) (v3 := (.slice x3 yy.1.set.length j3)) (v4 := (.slice x4 yy.1.table.length j4)) k1 (by omega)) (And.intro (far5 (b := w5.heap.size) (v0 := (.slice x0 yy.1.cell.length j0)) (v1 := (.slice x1 yy.1.stack.length j1)) (v2 := (.slice x2 yy.1.queue.length j2)) (v3 := (.slice x3 yy.1.set.length j3)) (v4 := (.slice x4 yy.1.table.length j4)) k2 (by omega)) (And.intro (far5 (b := w5.heap.size) (v0 := (.slice x0 yy.1.cell.length j0)) (v1 := (.slice x1 yy.1.stack.length j1)) (v2 := (.slice x2 yy.1.queue.length j2)) (v3 := (.slice x3 yy.1.set.length j3)) (v4 := (.slice x4 yy.1.table.length j4)) k3 (by omega)) (And.intro (far5 (b := w5.heap.size) (v0 := (.slice x0 yy.1.cell.length j0)) (v1 := (.slice x1 yy.1.stack.length j1)) (v2 := (.slice x2 yy.1.queue.length j2)) (v3 := (.slice x3 yy.1.set.length j3)) (v4 := (.slice x4 yy.1.table.length j4)) k4 (by omega)) (And.intro (far5 (b := w5.heap.size) (v0 := (.slice x0 yy.1.cell.length j0)) (v1 := (.slice x1 yy.1.stack.length j1)) (v2 := (.slice x2 yy.1.queue.length j2)) (v3 := (.slice x3 yy.1.set.length j3)) (v4 := (.slice x4 yy.1.table.length j4)) g0 (by omega)) (And.intro (far5 (b := w5.heap.size) (v0 := (.slice x0 yy.1.cell.length j0)) (v1 := (.slice x1 yy.1.stack.length j1)) (v2 := (.slice x2 yy.1.queue.length j2)) (v3 := (.slice x3 yy.1.set.length j3)) (v4 := (.slice x4 yy.1.table.length j4)) g1 (by omega)) (And.intro (far5 (b := w5.heap.size) (v0 := (.slice x0 yy.1.cell.length j0)) (v1 := (.slice x1 yy.1.stack.length j1)) (v2 := (.slice x2 yy.1.queue.length j2)) (v3 := (.slice x3 yy.1.set.length j3)) (v4 := (.slice x4 yy.1.table.length j4)) g2 (by omega)) (And.intro (far5 (b := w5.heap.size) (v0 := (.slice x0 yy.1.cell.length j0)) (v1 := (.slice x1 yy.1.stack.length j1)) (v2 := (.slice x2 yy.1.queue.length j2)) (v3 := (.slice x3 yy.1.set.length j3)) (v4 := (.slice x4 yy.1.table.length j4)) g3 (by omega)) (And.intro (far5 (b := w5.heap.size) (v0 := (.slice x0 yy.1.cell.length j0)) (v1 := (.slice x1 yy.1.stack.length j1)) (v2 := (.slice x2 yy.1.queue.length j2)) (v3 := (.slice x3 yy.1.set.length j3)) (v4 := (.slice x4 yy.1.table.length j4)) g4 (by omega)) (And.intro (far5 (b := w5.heap.size) (v0 := (.slice x0 yy.1.cell.length j0)) (v1 := (.slice x1 yy.1.stack.length j1)) (v2 := (.slice x2 yy.1.queue.length j2)) (v3 := (.slice x3 yy.1.set.length j3)) (v4 := (.slice x4 yy.1.table.length j4)) g5 (by omega)) (And.intro (far5 (b := w5.heap.size) (v0 := (.slice x0 yy.1.cell.length j0)) (v1 := (.slice x1 yy.1.stack.length j1)) (v2 := (.slice x2 yy.1.queue.length j2)) (v3 := (.slice x3 yy.1.set.length j3)) (v4 := (.slice x4 yy.1.table.length j4)) g6 (by omega)) (And.intro (far5 (b := w5.heap.size) (v0 := (.slice x0 yy.1.cell.length j0)) (v1 := (.slice x1 yy.1.stack.length j1)) (v2 := (.slice x2 yy.1.queue.length j2)) (v3 := (.slice x3 yy.1.set.length j3)) (v4 := (.slice x4 yy.1.table.length j4)) g7 (by omega)) (far5 (b := w5.heap.size) (v0 := (.slice x0 yy.1.cell.length j0)) (v1 := (.slice x1 yy.1.stack.length j1)) (v2 := (.slice x2 yy.1.queue.length j2)) (v3 := (.slice x3 yy.1.set.length j3)) (v4 := (.slice x4 yy.1.table.length j4)) g8 (by omega)))))))))))))); unfold set5 at K5; replace K5 := Mr.hid K5; clear hat4 bx4; unfold set5 ctO at E5; replace E5 := Mr.hid E5; replace B4 := Mr.hid B4))
      all_goals
       go_wp2
       go_meet
       case rel => exact ⟨_, _, _, _, _, _, rfl, rfl, E5.out⟩
     case rest =>
      obtain ⟨b7, v0, v1, v2, v3, v4, rfl, rfl, hK5, hb7, hat5⟩ := hcut
      clear MT CA hK k0 k1 k2 k3 k4 g0 g1 g2 g3 g4 g5 g6 g7 g8 hcl kl hw2
      cases hbq : yy.2 with
      | false =>
       have hpk : Hid (pG (k + 1) = pG k) := by
        show pG (k + 1) = pG k
        rw [hps.out, hG0k.out (by rw [hbq]; rfl), List.append_nil]
       replace hK5 := Mr.hid hK5
       replace hb7 := Mr.hid hb7
       replace hat5 := Mr.hid hat5
       replace hbq := Mr.hid hbq
       go_wp2
       go_roundg (gk - 1)
       case measure => omega
       case rel => exact ⟨k + 1, vr, mi, rfl, rfl, by simp, by omega, by rw [hpk.out]; exact hmi.out, fun e => by rw [hpk.out]; exact hfe.out e, by rw [hpk.out]; exact hK5.out⟩
      | true =>
       have WK := hGk.out hbq
       replace hK5 := Mr.hid hK5
       replace hat5 := Mr.hid hat5
       replace hbq := Mr.hid hbq
       go_upto_region 16 with (at_builtin; refine wpList_append_mine _ rfl (.tmp 49) (.tmp 50) 24 rfl (fun k => wc.heap.size ≤ k) 3 i0 _ 1 8 Tryz.underlying24 hi0 hz0 hz1 hz2 rfl _ 0 [] rfl (Own.zero _ _ _ _ _) ao m co (ints (natI o)) rfl hl1.out hs1.out (hs2.out _ hK5.out.bel) ho1.out (by unfold maxLen; omega) (by omega) ?_; intro b1 cap1 w6 hown hfr; have hB6 : Below wc.heap.size wc w6 := hfr.below (fun k hk => hk) (Nat.le_refl _); replace hown := hown.mono (T := fun k => wc.heap.size ≤ k) (fun k hk => by rcases hk with hk | hk; exact hk; omega); rw [Nat.zero_add, List.nil_append] at hown; rw [Nat.zero_add]; clear hfr; replace hown := Mr.hid hown; replace hB6 := Mr.hid hB6)
       go_upto_region 17 with (at_builtin; refine wpList_append_mine _ rfl (.tmp 52) (.tmp 54) 24 rfl (fun k => wc.heap.size ≤ k) 3 i0 _ 1 8 Tryz.underlying24 hi0 hz0 hz1 hz2 rfl _ m (ints (natI o)) rfl (hown.out.below ((Below.refl _ _).alloc (Nat.le_refl _) _)) (some ⟨w6.heap.size, 0, none⟩) 1 1 [.int .i64 (k : Int)] rfl rfl (fun e => by cases e) (new1 rfl) (by simp [Value.oneCell']) (by unfold maxLen; omega) (by omega) ?_; intro b2 cap2 w7 hown2 hfr2; have hB7 : Below wc.heap.size wc w7 := (hB6.out.alloc hB6.out.size _).trans (hfr2.below (fun k hk => hk) (by have := hB6.out.size; simp; omega)); replace hown2 := hown2.mono (T := fun k => wc.heap.size ≤ k) (fun k hk => by have := hB6.out.size; rcases hk with hk | hk; exact hk; subst hk; simp <;> omega); clear hfr2 hown hB6; replace hown2 := Mr.hid hown2; replace hB7 := Mr.hid hB7)
       have hK7 := Mr.hid (hK5.out.below hB7.out)
       have hat7 := hat5.out.below hB7.out
       have hb77 := (hB7.out.block b7 (Array.getElem?_eq_some_iff.1 hb7).1).trans hb7
       have hSo : Sl w7 (fun _ => True) 1 (.slice b2 (o ++ [k]).length cap2) (o ++ [k]).length (ints (natI (o ++ [k]))) := by
        have h1 := hown2.out.sl.mono (T' := fun _ => True) (fun _ _ => trivial)
        have e1 : (o ++ [k]).length = m + 1 := by rw [hm.out]; simp
        have e2 : ints (natI (o ++ [k])) = ints (natI o) ++ [.int .i64 (k : Int)] := by simp [ints, natI]
        rw [e1, e2]; exact h1
       have WKw := WK _ _ _ _ _ _ _ _ (hv.out.below hK7.out.bel) hat7 hSo
       rw [show (o ++ [k]).length = m + 1 by rw [hm.out]; simp, ← hn.out] at WKw
       replace WKw := Mr.hid WKw
       obtain ⟨y0, y1, y2, y3, y4, yl⟩ := ctO_cells hb77
       clear hK5 hat5 hb7 hat7 hb77 hSo hown2 hB7 WK
       go_upto_region 18 with (go_at_call 19; refine WKw.out.mono ?_; clear WKw; rintro e w8 ⟨vl, rfl, hSl, hB8⟩; replace hSl := Mr.hid hSl; have hK8 := Mr.hid (hK7.out.below hB8); have hz8 := Nat.le_trans hK7.out.bel.size hB8.size; replace hB8 := Mr.hid hB8)
       clear y0 y1 y2 y3 y4 yl
       obtain ⟨ki, hki⟩ : ∃ ki : Int, ki = ((cntM first (G k).length : Nat) : Int) := ⟨_, rfl⟩
       rw [← hki]
       have hple := pL.out (k + 1) (by omega)
       rw [hps.out, List.length_append] at hple
       have hmi2 := hmi.out
       have hwr : IntKind.i64.wrap (mi + ki) = mi + ki := by
        have : (cntM first (G k).length) ≤ (G k).length := by unfold cntM; split <;> omega
        exact i64x _ (by omega) (by omega)
       by_cases hge : G k = []
       ·have hpk : Hid (pG (k + 1) = pG k) := by
         show pG (k + 1) = pG k
         rw [hps.out, hge, List.append_nil]
        have hk0 : ki = 0 := by rw [hki, hge]; unfold cntM; split <;> rfl
        clear hki hwr hmi2 hple
        subst hk0
        have hwr : IntKind.i64.wrap mi = mi := by
         have h1 := hmi.out
         have h2 := pL.out k (by omega)
         exact i64x _ (by omega) (by omega)
        replace hge := Mr.hid hge
        cases first with
        | false =>
         cases hm0 : (mi == 0) with
         | true =>
          go_wp2
          go_roundg (gk - 1)
          case measure => omega
          case rel => exact ⟨k + 1, vr, mi, rfl, rfl, by simp, by omega, by rw [hpk.out]; exact hmi.out, fun e => by rw [hpk.out]; exact hfe.out e, by rw [hpk.out]; exact hK8.out⟩
         | false =>
          go_wp2
          go_roundg (gk - 1)
          case measure => omega
          case rel => exact ⟨k + 1, vr, mi, rfl, rfl, by simp, by omega, by rw [hpk.out]; exact hmi.out, fun e => by rw [hpk.out]; exact hfe.out e, by rw [hpk.out]; exact hK8.out⟩
        | true =>
         have hm00 : mi = 0 := by rw [hmi.out, hfe.out rfl]; rfl
         clear hwr
         subst hm00
         go_wp2
         go_roundg (gk - 1)
         case measure => omega
         case rel => exact ⟨k + 1, vr, 0, rfl, rfl, by simp, by omega, by rw [hpk.out]; exact hmi.out, fun e => by rw [hpk.out]; exact hfe.out e, by rw [hpk.out]; exact hK8.out⟩
       ·have hkp : 0 < ki := by
         have : 0 < (G k).length := List.length_pos_iff.2 hge
         rw [hki]; unfold cntM; split <;> omega
        have hkd : decide (0 < ki) = true := decide_eq_true hkp
        by_cases hpe : pG k = []
        ·have hm00 : mi = 0 := by rw [hmi.out, hpe]; rfl
         have hpk : pG (k + 1) = G k := by rw [hps.out, hpe, List.nil_append]
         have hhd : hd (pG (k + 1)) = hd (G k) := by rw [hpk]
         clear hwr hmi2 hple hmi
         subst hm00
         have hwr : IntKind.i64.wrap ki = ki := by
          have h2 := pL.out (k + 1) (by omega)
          rw [hpk] at h2
          have : (cntM first (G k).length) ≤ (G k).length := by unfold cntM; split <;> omega
          exact i64x _ (by omega) (by omega)
         replace hkp := Mr.hid hkp
         replace hge := Mr.hid hge
         replace hpe := Mr.hid hpe
         replace hpk := Mr.hid hpk
         replace hhd := Mr.hid hhd
         replace hki := Mr.hid hki
         have hK9 : Hid (Kw W (.slice z0 l0 m0) (.slice z1 l1 m1) (.slice z2 l2 m2) (.slice z3 l3 m3) (.slice z4 l4 m4) vl (hd (G k)) w8) := ⟨hK8.out.bel, hK8.out.box, hSl.out.mono (fun j hj => Nat.le_trans hK7.out.bel.size hj)⟩
         cases first with
         | true =>
          go_wp2
          refine bodyPost_ret (v := .tuple #[.int .i64 ki, vl]) (by simp [results, Tryz.results19, go_sem]) rfl ?_
          have hpre := PN.out k (by omega)
          rw [hpe.out, List.nil_append] at hpre
          refine ⟨vl, ?_, ?_, hK9.out.bel⟩
          ·rw [hki.out]
           have h1 : 0 < (G k).length := List.length_pos_iff.2 hge.out
           have h2 : (G k).length ≤ (pG n).length := by obtain ⟨z, hz⟩ := hpre; rw [hz, List.length_append]; omega
           have : cntM true (G k).length = cntM true (pG n).length := by unfold cntM; rw [if_pos rfl, if_pos rfl]; omega
           rw [this]
          ·have : hd (pG n) = hd (G k) := by
            obtain ⟨z, hz⟩ := hpre
            rw [hz]
            exact hd_app hge.out z
           rw [this]
           exact hK9.out.row
         | false =>
          go_wp2
          go_roundg (gk - 1)
          case measure => omega
          case rel => exact ⟨k + 1, vl, ki, rfl, rfl, by simp, by omega, by rw [hpk.out, hki.out]; rfl, fun e => (by cases e), by rw [hhd.out]; exact hK9.out⟩
        ·have hfF : first = false := by
          cases first with
          | false => rfl
          | true => exact absurd (hfe.out rfl) hpe
         have hmp : 0 < mi := by
          have : 0 < (pG k).length := List.length_pos_iff.2 hpe
          rw [hmi.out]; omega
         have hm0 : (mi == 0) = false := by rw [beq_eq_false_iff_ne]; omega
         have hhd : hd (pG (k + 1)) = hd (pG k) := by rw [hps.out]; exact hd_app hpe _
         have hnum : mi + ki = ((pG (k + 1)).length : Int) := by rw [hps.out, List.length_append, hmi.out, hki, hfF]; unfold cntM; simp
         subst hfF
         replace hnum := Mr.hid hnum
         replace hhd := Mr.hid hhd
         replace hki := Mr.hid hki
         replace hmp := Mr.hid hmp
         replace hkp := Mr.hid hkp
         replace hge := Mr.hid hge
         replace hpe := Mr.hid hpe
         clear hmi2 hple
         go_wp2
         go_roundg (gk - 1)
         case measure => omega
         case rel => exact ⟨k + 1, vr, mi + ki, rfl, rfl, by simp, by omega, hnum.out, fun e => (by cases e), by rw [hhd.out]; exact hK8.out⟩
   ·obtain rfl : k = n := by omega
    have dl : decide ((k : Int) < (k : Int)) = false := decide_eq_false (by omega)
    replace hK := Mr.hid hK
    replace hmi := Mr.hid hmi
    replace hfe := Mr.hid hfe
    go_wp2
    refine bodyPost_ret (v := .tuple #[.int .i64 mi, vr]) (by simp [results, Tryz.results19, go_sem]) rfl ?_
    refine ⟨vr, ?_, hK.out.row, hK.out.bel⟩
    rw [hmi.out]
    have : cntM first (pG k).length = (pG k).length := by
     unfold cntM
     cases first with
     | false => rfl
     | true => rw [hfe.out rfl]; rfl
    rw [this]
 | true =>
  rw [hib] at ROw
  have hp0 : pG 0 = [o] := by rw [P0.out, hib]; rfl
  replace hib := Mr.hid hib
  go_upto_region 6 with (first
   | (go_at_call 36; refine ROw.out.mono ?_; clear ROw; rintro e w2 ⟨rfl, hB2⟩; replace hK1 := Mr.hid (hK1.out.below hB2); clear hB2)
   | (at_builtin; refine wpList_append_mine _ rfl (.tmp 21) (.tmp 22) 24 rfl (fun k => w2.heap.size ≤ k) 3 i0 _ 1 8 Tryz.underlying24 hi0 hz0 hz1 hz2 rfl _ 0 [] rfl (Own.zero _ _ _ _ _) ao m co (ints (natI o)) rfl hl1.out hs1.out (hs2.out _ hK1.out.bel) ho1.out (by unfold maxLen; omega) (by omega) ?_; intro b1 cap1 w3 hown hfr; have hB3 : Below w2.heap.size w2 w3 := hfr.below (fun k hk => hk) (Nat.le_refl _); replace hown := hown.mono (T := fun k => w2.heap.size ≤ k) (fun k hk => by rcases hk with hk | hk; exact hk; omega); rw [Nat.zero_add, List.nil_append] at hown; rw [Nat.zero_add]; clear hfr; replace hown := Mr.hid hown; replace hB3 := Mr.hid hB3))
  have hK0 : Hid (Kw W (.slice z0 l0 m0) (.slice z1 l1 m1) (.slice z2 l2 m2) (.slice z3 l3 m3) (.slice z4 l4 m4) (.slice b1 m cap1) (hd (pG 0)) w3) := by
   show Kw _ _ _ _ _ _ _ _ _
   rw [hp0]
   refine ⟨(hK1.out.below hB3.out).bel, (hK1.out.below hB3.out).box, ?_⟩
   have h1 := hown.out.sl.mono (T' := fun k => W.heap.size ≤ k) (fun k hk => Nat.le_trans hK1.out.bel.size hk)
   rw [hm.out] at h1
   show Sl w3 _ 1 (.slice b1 m cap1) o.length (ints (natI o))
   rw [hm.out]; exact h1
  clear hown hK1 hB3
  cases first with
  | true =>
   have hne : Hid (0 < (pG n).length ∧ hd (pG n) = o) := by
    show 0 < (pG n).length ∧ hd (pG n) = o
    by_cases hn0 : n = 0
    ·subst hn0; rw [hp0]; exact ⟨by simp, rfl⟩
    ·have hlow : ∀ k, ∃ z, pG k = [o] ++ z := by
      intro k
      induction k with
      | zero => exact ⟨[], by rw [hp0]; rfl⟩
      | succ k ih =>
       obtain ⟨z, hz⟩ := ih
       exact ⟨z ++ G k, by rw [PS.out, hz, List.append_assoc]⟩
     obtain ⟨z, hz⟩ := hlow n
     rw [hz]; exact ⟨by simp, rfl⟩
   replace hp0 := Mr.hid hp0
   go_wp2
   refine bodyPost_ret (v := .tuple #[.int .i64 1, .slice b1 m cap1]) (by simp [results, Tryz.results19, go_sem]) rfl ?_
   refine ⟨.slice b1 m cap1, ?_, ?_, hK0.out.bel⟩
   ·have : cntM true (pG n).length = 1 := by have := hne.out.1; unfold cntM; rw [if_pos rfl]; omega
    rw [this]; rfl
   ·have h1 := hK0.out.row
    rw [hp0.out] at h1
    rw [hne.out.2]; exact h1
  | false =>
   have hm0 : Hid ((1 : Int) = ((pG 0).length : Int)) := by
    show (1 : Int) = _
    rw [hp0]; rfl
   have hf0 : Hid (false = true → pG 0 = []) := fun e => by cases e
   replace hp0 := Mr.hid hp0
   go_wp2
   go_loopg [10, 11, 12] n (fun q s10 s11 s12 wr => ∃ (k : Nat) (vr : Value) (mi : Int), s10 = .int .i64 mi ∧ vr = s11 ∧ s12 = .int .i64 (k : Int) ∧ k + q = n ∧ mi = ((pG k).length : Int) ∧ (false = true → pG k = []) ∧ Kw W (.slice z0 l0 m0) (.slice z1 l1 m1) (.slice z2 l2 m2) (.slice z3 l3 m3) (.slice z4 l4 m4) vr (hd (pG k)) wr)
   case atStart => exact ⟨0, _, _, rfl, rfl, rfl, by omega, hm0.out, hf0.out, hK0.out⟩
   case round =>
    clear hm0 hf0 hK0
    obtain ⟨k, vr, mi, rfl, rfl, rfl, hk, hmi, hfe, hK⟩ := hrel
    by_cases hlt : k < n
    ·obtain ⟨c, hck⟩ := get_of_lt (cs := cs) (i := k) (by have := hn.out; omega)
     have hcd := cd_get hck
     have NX := rnext_any (hv.out.below hK.bel) (ho.out.below hK.bel) hsm hso hoo (p := k) (by have := hn.out; omega)
     rw [← hn.out, ← hm.out] at NX
     have hlI : (k : Int) < (n : Int) := by omega
     have q0 : (0 : Int) ≤ (k : Int) := by omega
     have hw1 : IntKind.i64.wrap ((k : Int) + 1) = (k : Int) + 1 := i64x _ (by omega) (by omega)
     have hps := PS.out k
     cases hnx : nxB cs o k with
     | false =>
      have hpk : Hid (pG (k + 1) = pG k) := by
       show pG (k + 1) = pG k
       rw [hps, hG0.out k (by have := hn.out; omega) (by rw [hnx]; rfl), List.append_nil]
      rw [hnx] at NX
      replace NX := Mr.hid NX
      replace hK := Mr.hid hK
      replace hmi := Mr.hid hmi
      replace hfe := Mr.hid hfe
      replace hck := Mr.hid hck
      replace hcd := Mr.hid hcd
      replace hnx := Mr.hid hnx
      replace hps := Mr.hid hps
      go_wp2_with (go_at_call 37; refine NX.out.mono ?_; clear NX; rintro e w5 ⟨rfl, hB5⟩; replace hK := Mr.hid (hK.out.below hB5); clear hB5)
      go_roundg (gk - 1)
      case measure => omega
      case rel => exact ⟨k + 1, vr, mi, rfl, rfl, by simp, by omega, by rw [hpk.out]; exact hmi.out, fun e => by rw [hpk.out]; exact hfe.out e, by rw [hpk.out]; exact hK.out⟩
     | true =>
      have hobj : obj c.op ≠ 0 := by
       unfold nxB at hnx
       rw [hcd] at hnx
       simp at hnx
       exact hnx.1.1
      obtain ⟨yy, hyy⟩ : ∃ y, y = alw x c := ⟨_, rfl⟩
      have hGk := hGs.out k (by have := hn.out; omega) hnx
      have hG0k := hG0.out k (by have := hn.out; omega)
      rw [hnx, hcd, ← hyy] at hG0k
      rw [hcd, ← hyy] at hGk
      rw [hnx] at NX
      replace NX := Mr.hid NX
      replace hK := Mr.hid hK
      replace hmi := Mr.hid hmi
      replace hfe := Mr.hid hfe
      replace hcd := Mr.hid hcd
      replace hnx := Mr.hid hnx
      replace hps := Mr.hid hps
      replace hyy := Mr.hid hyy
      replace hck := Mr.hid hck
      replace hGk := Mr.hid hGk
      replace hG0k := Mr.hid hG0k
      replace hobj := Mr.hid hobj
      go_upto_region 12 with (go_at_call 37; refine NX.out.mono ?_; clear NX; rintro e w5 ⟨rfl, hB5⟩; replace hK := Mr.hid (hK.out.below hB5); clear hB5)
      have CA := fun w' (hB : Below w5.heap.size w5 w') => allows_any ((hx.out.below hK.out.bel).below hB) (hin.mono (by decide)) c hobj.out
      rw [← hyy.out] at CA
      replace CA := Mr.hid CA
      obtain ⟨bc, oc, e9, A9⟩ := call_at (hv.out.below hK.out.bel) hck.out
      cases e9
      obtain ⟨hcl, g0, g1, g2, g3, g4, g5, g6, g7, g8⟩ := A9
      obtain ⟨k0, k1, k2, k3, k4, kl⟩ := ctO_cells hK.out.box
      have hw2 : W.heap.size < w5.heap.size := kl
      have MT : Hid (∀ (b7 : Nat) v0 v1 v2 v3 v4 (wx : World) (h1 : Below w5.heap.size w5 wx) (h2 : wx.heap[b7]? = some (ctO v0 v1 v2 v3 v4)) (h3 : CtAt wx (fun _ => True) v0 v1 v2 v3 v4 yy.1), Kw W (.slice z0 l0 m0) (.slice z1 l1 m1) (.slice z2 l2 m2) (.slice z3 l3 m3) (.slice z4 l4 m4) vr (hd (pG k)) wx ∧ wx.heap[b7]? = some (ctO v0 v1 v2 v3 v4) ∧ CtAt wx (fun _ => True) v0 v1 v2 v3 v4 yy.1) := fun b7 v0 v1 v2 v3 v4 wx h1 h2 h3 => ⟨hK.out.below h1, h2, h3⟩
      go_cut [13, 14] from 38 to 46 (fun s13 s14 wx => ∃ (b7 : Nat) (v0 v1 v2 v3 v4 : Value), s13 = .pointer (some ⟨b7, 0, none⟩) ∧ s14 = .bool yy.2 ∧ Kw W (.slice z0 l0 m0) (.slice z1 l1 m1) (.slice z2 l2 m2) (.slice z3 l3 m3) (.slice z4 l4 m4) vr (hd (pG k)) wx ∧ wx.heap[b7]? = some (ctO v0 v1 v2 v3 v4) ∧ CtAt wx (fun _ => True) v0 v1 v2 v3 v4 yy.1)
      case first =>
       go_region_held3 (fun w' => w'.cell? ⟨W.heap.size, 0, none⟩ = some (.slice z0 l0 m0) ∧ w'.cell? ⟨W.heap.size, 1, none⟩ = some (.slice z1 l1 m1) ∧ w'.cell? ⟨W.heap.size, 2, none⟩ = some (.slice z2 l2 m2) ∧ w'.cell? ⟨W.heap.size, 3, none⟩ = some (.slice z3 l3 m3) ∧ w'.cell? ⟨W.heap.size, 4, none⟩ = some (.slice z4 l4 m4) ∧ w'.cell? ⟨bc, oc + k * 9, none⟩ = some (.int .i64 c.th) ∧ w'.cell? ⟨bc, oc + k * 9 + 1, none⟩ = some (.int .i64 c.op) ∧ w'.cell? ⟨bc, oc + k * 9 + 2, none⟩ = some (.int .i64 c.arg) ∧ w'.cell? ⟨bc, oc + k * 9 + 3, none⟩ = some (.int .i64 c.data) ∧ w'.cell? ⟨bc, oc + k * 9 + 4, none⟩ = some (.int .i64 c.beg) ∧ w'.cell? ⟨bc, oc + k * 9 + 5, none⟩ = some (.int .i64 c.fin) ∧ w'.cell? ⟨bc, oc + k * 9 + 6, none⟩ = some (.int .i64 c.pt) ∧ w'.cell? ⟨bc, oc + k * 9 + 7, none⟩ = some (.int .i64 c.ak) ∧ w'.cell? ⟨bc, oc + k * 9 + 8, none⟩ = some (.int .i64 c.av)) (first | with_reducible exact K5.out | go_keep) (first | (go_at_call 38; refine (CA.out _ (Below.refl _ _).drew).mono ?_; rintro e w4 ⟨v0, v1, v2, v3, v4, rfl, hat4, hB4⟩; have B4 : Below w5.heap.size w5 w4 := (((Below.refl _ _).drew).trans hB4); clear hB4 CA; obtain ⟨x0, j0, rfl, _⟩ := hat4.cell.form; obtain ⟨x1, j1, rfl, _⟩ := hat4.stack.form; obtain ⟨x2, j2, rfl, _⟩ := hat4.queue.form; obtain ⟨x3, j3, rfl, _⟩ := hat4.set.form; obtain ⟨x4, j4, rfl, _⟩ := hat4.table.form; have hK4 := hK.out.below B4; obtain ⟨k0, k1, k2, k3, k4, kl4⟩ := ctO_cells hK4.box; have g0 := (B4.cell (p := ⟨bc, oc + k * 9, none⟩) hcl).trans g0; have g1 := (B4.cell (p := ⟨bc, oc + k * 9 + 1, none⟩) hcl).trans g1; have g2 := (B4.cell (p := ⟨bc, oc + k * 9 + 2, none⟩) hcl).trans g2; have g3 := (B4.cell (p := ⟨bc, oc + k * 9 + 3, none⟩) hcl).trans g3; have g4 := (B4.cell (p := ⟨bc, oc + k * 9 + 4, none⟩) hcl).trans g4; have g5 := (B4.cell (p := ⟨bc, oc + k * 9 + 5, none⟩) hcl).trans g5; have g6 := (B4.cell (p := ⟨bc, oc + k * 9 + 6, none⟩) hcl).trans g6; have g7 := (B4.cell (p := ⟨bc, oc + k * 9 + 7, none⟩) hcl).trans g7; have g8 := (B4.cell (p := ⟨bc, oc + k * 9 + 8, none⟩) hcl).trans g8; have hcl4 : bc < w4.heap.size := Nat.lt_of_lt_of_le hcl B4.size; clear hK4; have E5 := MT.out w4.heap.size _ _ _ _ _ (w4.alloc (ctO (.slice x0 yy.1.cell.length j0) (.slice x1 yy.1.stack.length j1) (.slice x2 yy.1.queue.length j2) (.slice x3 yy.1.set.length j3) (.slice x4 yy.1.table.length j4))) (B4.alloc B4.size _) (new_at _ _ _ rfl) ((hat4.mono (fun k hk => trivial)).below ((Below.refl _ _).alloc (Nat.le_refl _) _)); clear hat4; unfold ctO at E5; replace E5 := Mr.hid E5; replace B4 := Mr.hid B4) | (go_at_call 38; refine (CA.out _ ((Below.refl _ _).alloc (Nat.le_refl _) _).drew).mono ?_; rintro e w4 ⟨v0, v1, v2, v3, v4, rfl, hat4, hB4⟩; have B4 : Below w5.heap.size w5 w4 := (((Below.refl _ _).alloc (Nat.le_refl _) _).drew.trans (hB4.mono (by simp))); have bx4 := (hB4.block w5.heap.size (by simp)).trans (new_at w5 nil5 _ rfl); clear hB4 CA; obtain ⟨h0, h1, h2, h3, h4, hl4⟩ := ctO_cells bx4; obtain ⟨e0, e1, e2, e3, e4⟩ := ctO_thaw bx4; obtain ⟨x0, j0, rfl, _⟩ := hat4.cell.form; obtain ⟨x1, j1, rfl, _⟩ := hat4.stack.form; obtain ⟨x2, j2, rfl, _⟩ := hat4.queue.form; obtain ⟨x3, j3, rfl, _⟩ := hat4.set.form; obtain ⟨x4, j4, rfl, _⟩ := hat4.table.form; have hK4 := hK.out.below B4; obtain ⟨k0, k1, k2, k3, k4, kl4⟩ := ctO_cells hK4.box; have g0 := (B4.cell (p := ⟨bc, oc + k * 9, none⟩) hcl).trans g0; have g1 := (B4.cell (p := ⟨bc, oc + k * 9 + 1, none⟩) hcl).trans g1; have g2 := (B4.cell (p := ⟨bc, oc + k * 9 + 2, none⟩) hcl).trans g2; have g3 := (B4.cell (p := ⟨bc, oc + k * 9 + 3, none⟩) hcl).trans g3; have g4 := (B4.cell (p := ⟨bc, oc + k * 9 + 4, none⟩) hcl).trans g4; have g5 := (B4.cell (p := ⟨bc, oc + k * 9 + 5, none⟩) hcl).trans g5; have g6 := (B4.cell (p := ⟨bc, oc + k * 9 + 6, none⟩) hcl).trans g6; have g7 := (B4.cell (p := ⟨bc, oc + k * 9 + 7, none⟩) hcl).trans g7; have g8 := (B4.cell (p := ⟨bc, oc + k * 9 + 8, none⟩) hcl).trans g8; have hcl4 : bc < w4.heap.size := Nat.lt_of_lt_of_le hcl B4.size; clear hK4; have E5 := MT.out w5.heap.size _ _ _ _ _ (set5 w4 w5.heap.size (.slice x0 yy.1.cell.length j0) (.slice x1 yy.1.stack.length j1) (.slice x2 yy.1.queue.length j2) (.slice x3 yy.1.set.length j3) (.slice x4 yy.1.table.length j4)) (set5_below _ _ _ _ _ B4 (Nat.le_refl _)) (set5_at _ _ _ _ _ bx4) ((hat4.mono (T' := fun k => w5.heap.size + 1 ≤ k) (fun k hk => by simpa using hk)).fr (set5_fr w4 w5.heap.size _ _ _ _ _) (fun k hk _ e => by subst e; omega) |>.mono (fun k hk => trivial)); have K5 := And.intro (far5 (b := w5.heap.size) (v0 := (.slice x0 yy.1.cell.length j0)) (v1 := (.slice x1 yy.1.stack.length j1)) (v2 := (.slice x2 yy.1.queue.length j2)) (v3 := (.slice x3 yy.1.set.length j3)) (v4 := (.slice x4 yy.1.table.length j4)) k0 (by omega)) (And.intro (far5 (b := w5.heap.size) (v0 := (.slice x0 yy.1.cell.length j0)) (v1 := (.slice x1 yy.1.stack.length j1)) (v2 := (.slice x2 yy.1.queue.length j2)) (v3 := (.slice x3 yy.1.set.length j3)) (v4 := (.slice x4 yy.1.table.length j4)) k1 (by omega)) (And.intro (far5 (b := w5.heap.size) (v0 := (.slice x0 yy.1.cell.length j0)) (v1 := (.slice x1 yy.1.stack.length j1)) (v2 := (.slice x2 yy.1.queue.length j2)) (v3 := (.slice x3 yy.1.set.length j3)) (v4 := (.slice x4 yy.1.table.length j4)) k2 (by omega)) (And.intro (far5 (b := w5.heap.size) (v0 := (.slice x0 yy.1.cell.length j0)) (v1 := (.slice x1 yy.1.stack.length j1)) (v2 := (.slice x2 yy.1.queue.length j2)) (v3 := (.slice x3 yy.1.set.length j3)) (v4 := (.slice x4 yy.1.table.length j4)) k3 (by omega)) (And.intro (far5 (b := w5.heap.size) (v0 := (.slice x0 yy.1.cell.length j0)) (v1 := (.slice x1 yy.1.stack.length j1)) (v2 := (.slice x2 yy.1.queue.length j2)) (v3 := (.slice x3 yy.1.set.length j3)) (v4 := (.slice x4 yy.1.table.length j4)) k4 (by omega)) (And.intro (far5 (b := w5.heap.size) (v0 := (.slice x0 yy.1.cell.length j0)) (v1 := (.slice x1 yy.1.stack.length j1)) (v2 := (.slice x2 yy.1.queue.length j2)) (v3 := (.slice x3 yy.1.set.length j3)) (v4 := (.slice x4 yy.1.table.length j4)) g0 (by omega)) (And.intro (far5 (b := w5.heap.size) (v0 := (.slice x0 yy.1.cell.length j0)) (v1 := (.slice x1 yy.1.stack.length j1)) (v2 := (.slice x2 yy.1.queue.length j2)) (v3 := (.slice x3 yy.1.set.length j3)) (v4 := (.slice x4 yy.1.table.length j4)) g1 (by omega)) (And.intro (far5 (b := w5.heap.size) (v0 := (.slice x0 yy.1.cell.length j0)) (v1 := (.slice x1 yy.1.stack.length j1)) (v2 := (.slice x2 yy.1.queue.length j2)) (v3 := (.slice x3 yy.1.set.length j3)) (v4 := (.slice x4 yy.1.table.length j4)) g2 (by omega)) (And.intro (far5 (b := w5.heap.size) (v0 := (.slice x0 yy.1.cell.length j0)) (v1 := (.slice x1 yy.1.stack.length j1)) (v2 := (.slice x2 yy.1.queue.length j2)) (v3 := (.slice x3 yy.1.set.length j3)) (v4 := (.slice x4 yy.1.table.length j4)) g3 (by omega)) (And.intro (far5 (b := w5.heap.size) (v0 := (.slice x0 yy.1.cell.length j0)) (v1 := (.slice x1 yy.1.stack.length j1)) (v2 := (.slice x2 yy.1.queue.length j2)) (v3 := (.slice x3 yy.1.set.length j3)) (v4 := (.slice x4 yy.1.table.length j4)) g4 (by omega)) (And.intro (far5 (b := w5.heap.size) (v0 := (.slice x0 yy.1.cell.length j0)) (v1 := (.slice x1 yy.1.stack.length j1)) (v2 := (.slice x2 yy.1.queue.length j2)) (v3 := (.slice x3 yy.1.set.length j3)) (v4 := (.slice x4 yy.1.table.length j4)) g5 (by omega)) (And.intro (far5 (b := w5.heap.size) (v0 := (.slice x0 yy.1.cell.length j0)) (v1 := (.slice x1 yy.1.stack.length j1)) (v2 := (.slice x2 yy.1.queue.length j2)) (v3 := (.slice x3 yy.1.set.length j3)) (v4 := (.slice x4 yy.1.table.length j4)) g6 (by omega)) (And.intro (far5 (b := w5.heap.size) (v0 := (.slice x0 yy.1.cell.length j0)) (v1 := (.slice x1 yy.1.stack.length j1)) (v2 := (.slice x2 yy.1.queue.length j2)) (v3 := (.slice x3 yy.1.set.length j3)) (v4 := (.slice x4 yy.1.table.length j4)) g7 (by omega)) (far5 (b := w5.heap.size) (v0 := (.slice x0 yy.1.cell.length j0)) (v1 := (.slice x1 yy.1.stack.length j1)) (v2 := (.slice x2 yy.1.queue.length j2)) (v3 := (.slice x3 yy.1.set.length j3)) (v4 := (.slice x4 yy.1.table.length j4)) g8 (by omega)))))))))))))); unfold set5 at K5; replace K5 := Mr.hid K5; clear hat4 bx4; unfold set5 ctO at E5; replace E5 := Mr.hid E5; replace B4 := Mr.hid B4))
       all_goals
        go_wp2
        go_meet
        case rel => exact ⟨_, _, _, _, _, _, rfl, rfl, E5.out⟩
      case rest =>
       obtain ⟨b7, v0, v1, v2, v3, v4, rfl, rfl, hK5, hb7, hat5⟩ := hcut
       clear MT CA hK k0 k1 k2 k3 k4 g0 g1 g2 g3 g4 g5 g6 g7 g8 hcl kl hw2
       cases hbq : yy.2 with
       | false =>
        have hpk : Hid (pG (k + 1) = pG k) := by
         show pG (k + 1) = pG k
         rw [hps.out, hG0k.out (by rw [hbq]; rfl), List.append_nil]
        replace hK5 := Mr.hid hK5
        replace hb7 := Mr.hid hb7
        replace hat5 := Mr.hid hat5
        replace hbq := Mr.hid hbq
        go_wp2
        go_roundg (gk - 1)
        case measure => omega
        case rel => exact ⟨k + 1, vr, mi, rfl, rfl, by simp, by omega, by rw [hpk.out]; exact hmi.out, fun e => by rw [hpk.out]; exact hfe.out e, by rw [hpk.out]; exact hK5.out⟩
       | true =>
        have WK := hGk.out hbq
        replace hK5 := Mr.hid hK5
        replace hat5 := Mr.hid hat5
        replace hbq := Mr.hid hbq
        go_upto_region 16 with (at_builtin; refine wpList_append_mine _ rfl (.tmp 49) (.tmp 50) 24 rfl (fun k => wc.heap.size ≤ k) 3 i0 _ 1 8 Tryz.underlying24 hi0 hz0 hz1 hz2 rfl _ 0 [] rfl (Own.zero _ _ _ _ _) ao m co (ints (natI o)) rfl hl1.out hs1.out (hs2.out _ hK5.out.bel) ho1.out (by unfold maxLen; omega) (by omega) ?_; intro b1 cap1 w6 hown hfr; have hB6 : Below wc.heap.size wc w6 := hfr.below (fun k hk => hk) (Nat.le_refl _); replace hown := hown.mono (T := fun k => wc.heap.size ≤ k) (fun k hk => by rcases hk with hk | hk; exact hk; omega); rw [Nat.zero_add, List.nil_append] at hown; rw [Nat.zero_add]; clear hfr; replace hown := Mr.hid hown; replace hB6 := Mr.hid hB6)
        go_upto_region 17 with (at_builtin; refine wpList_append_mine _ rfl (.tmp 52) (.tmp 54) 24 rfl (fun k => wc.heap.size ≤ k) 3 i0 _ 1 8 Tryz.underlying24 hi0 hz0 hz1 hz2 rfl _ m (ints (natI o)) rfl (hown.out.below ((Below.refl _ _).alloc (Nat.le_refl _) _)) (some ⟨w6.heap.size, 0, none⟩) 1 1 [.int .i64 (k : Int)] rfl rfl (fun e => by cases e) (new1 rfl) (by simp [Value.oneCell']) (by unfold maxLen; omega) (by omega) ?_; intro b2 cap2 w7 hown2 hfr2; have hB7 : Below wc.heap.size wc w7 := (hB6.out.alloc hB6.out.size _).trans (hfr2.below (fun k hk => hk) (by have := hB6.out.size; simp; omega)); replace hown2 := hown2.mono (T := fun k => wc.heap.size ≤ k) (fun k hk => by have := hB6.out.size; rcases hk with hk | hk; exact hk; subst hk; simp <;> omega); clear hfr2 hown hB6; replace hown2 := Mr.hid hown2; replace hB7 := Mr.hid hB7)
        have hK7 := Mr.hid (hK5.out.below hB7.out)
        have hat7 := hat5.out.below hB7.out
        have hb77 := (hB7.out.block b7 (Array.getElem?_eq_some_iff.1 hb7).1).trans hb7
        have hSo : Sl w7 (fun _ => True) 1 (.slice b2 (o ++ [k]).length cap2) (o ++ [k]).length (ints (natI (o ++ [k]))) := by
         have h1 := hown2.out.sl.mono (T' := fun _ => True) (fun _ _ => trivial)
         have e1 : (o ++ [k]).length = m + 1 := by rw [hm.out]; simp
         have e2 : ints (natI (o ++ [k])) = ints (natI o) ++ [.int .i64 (k : Int)] := by simp [ints, natI]
         rw [e1, e2]; exact h1
        have WKw := WK _ _ _ _ _ _ _ _ (hv.out.below hK7.out.bel) hat7 hSo
        rw [show (o ++ [k]).length = m + 1 by rw [hm.out]; simp, ← hn.out] at WKw
        replace WKw := Mr.hid WKw
        obtain ⟨y0, y1, y2, y3, y4, yl⟩ := ctO_cells hb77
        clear hK5 hat5 hb7 hat7 hb77 hSo hown2 hB7 WK
        go_upto_region 18 with (go_at_call 19; refine WKw.out.mono ?_; clear WKw; rintro e w8 ⟨vl, rfl, hSl, hB8⟩; replace hSl := Mr.hid hSl; have hK8 := Mr.hid (hK7.out.below hB8); have hz8 := Nat.le_trans hK7.out.bel.size hB8.size; replace hB8 := Mr.hid hB8)
        clear y0 y1 y2 y3 y4 yl
        obtain ⟨ki, hki⟩ : ∃ ki : Int, ki = ((cntM false (G k).length : Nat) : Int) := ⟨_, rfl⟩
        rw [← hki]
        have hple := pL.out (k + 1) (by omega)
        rw [hps.out, List.length_append] at hple
        have hmi2 := hmi.out
        have hwr : IntKind.i64.wrap (mi + ki) = mi + ki := by
         have : (cntM false (G k).length) ≤ (G k).length := by unfold cntM; split <;> omega
         exact i64x _ (by omega) (by omega)
        by_cases hge : G k = []
        ·have hpk : Hid (pG (k + 1) = pG k) := by
          show pG (k + 1) = pG k
          rw [hps.out, hge, List.append_nil]
         have hk0 : ki = 0 := by rw [hki, hge]; unfold cntM; split <;> rfl
         clear hki hwr hmi2 hple
         subst hk0
         have hwr : IntKind.i64.wrap mi = mi := by
          have h1 := hmi.out
          have h2 := pL.out k (by omega)
          exact i64x _ (by omega) (by omega)
         replace hge := Mr.hid hge
         cases hm0 : (mi == 0) with
         | true =>
          go_wp2
          go_roundg (gk - 1)
          case measure => omega
          case rel => exact ⟨k + 1, vr, mi, rfl, rfl, by simp, by omega, by rw [hpk.out]; exact hmi.out, fun e => by rw [hpk.out]; exact hfe.out e, by rw [hpk.out]; exact hK8.out⟩
         | false =>
          go_wp2
          go_roundg (gk - 1)
          case measure => omega
          case rel => exact ⟨k + 1, vr, mi, rfl, rfl, by simp, by omega, by rw [hpk.out]; exact hmi.out, fun e => by rw [hpk.out]; exact hfe.out e, by rw [hpk.out]; exact hK8.out⟩
        ·have hkp : 0 < ki := by
          have : 0 < (G k).length := List.length_pos_iff.2 hge
          rw [hki]; unfold cntM; split <;> omega
         have hkd : decide (0 < ki) = true := decide_eq_true hkp
         by_cases hpe : pG k = []
         ·have hm00 : mi = 0 := by rw [hmi.out, hpe]; rfl
          have hpk : pG (k + 1) = G k := by rw [hps.out, hpe, List.nil_append]
          have hhd : hd (pG (k + 1)) = hd (G k) := by rw [hpk]
          clear hwr hmi2 hple hmi
          subst hm00
          have hwr : IntKind.i64.wrap ki = ki := by
           have h2 := pL.out (k + 1) (by omega)
           rw [hpk] at h2
           have : (cntM false (G k).length) ≤ (G k).length := by unfold cntM; split <;> omega
           exact i64x _ (by omega) (by omega)
          replace hkp := Mr.hid hkp
          replace hge := Mr.hid hge
          replace hpe := Mr.hid hpe
          replace hpk := Mr.hid hpk
          replace hhd := Mr.hid hhd
          replace hki := Mr.hid hki
          have hK9 : Hid (Kw W (.slice z0 l0 m0) (.slice z1 l1 m1) (.slice z2 l2 m2) (.slice z3 l3 m3) (.slice z4 l4 m4) vl (hd (G k)) w8) := ⟨hK8.out.bel, hK8.out.box, hSl.out.mono (fun j hj => Nat.le_trans hK7.out.bel.size hj)⟩
          go_wp2
          go_roundg (gk - 1)
          case measure => omega
          case rel => exact ⟨k + 1, vl, ki, rfl, rfl, by simp, by omega, by rw [hpk.out, hki.out]; rfl, fun e => (by cases e), by rw [hhd.out]; exact hK9.out⟩
         ·have hfF : false = false := rfl
          have hmp : 0 < mi := by
           have : 0 < (pG k).length := List.length_pos_iff.2 hpe
           rw [hmi.out]; omega
          have hm0 : (mi == 0) = false := by rw [beq_eq_false_iff_ne]; omega
          have hhd : hd (pG (k + 1)) = hd (pG k) := by rw [hps.out]; exact hd_app hpe _
          have hnum : mi + ki = ((pG (k + 1)).length : Int) := by rw [hps.out, List.length_append, hmi.out, hki]; unfold cntM; simp
          clear hfF
          replace hnum := Mr.hid hnum
          replace hhd := Mr.hid hhd
          replace hki := Mr.hid hki
          replace hmp := Mr.hid hmp
          replace hkp := Mr.hid hkp
          replace hge := Mr.hid hge
          replace hpe := Mr.hid hpe
          clear hmi2 hple
          go_wp2
          go_roundg (gk - 1)
          case measure => omega
          case rel => exact ⟨k + 1, vr, mi + ki, rfl, rfl, by simp, by omega, hnum.out, fun e => (by cases e), by rw [hhd.out]; exact hK8.out⟩
    ·obtain rfl : k = n := by omega
     have dl : decide ((k : Int) < (k : Int)) = false := decide_eq_false (by omega)
     replace hK := Mr.hid hK
     replace hmi := Mr.hid hmi
     replace hfe := Mr.hid hfe
     go_wp2
     refine bodyPost_ret (v := .tuple #[.int .i64 mi, vr]) (by simp [results, Tryz.results19, go_sem]) rfl ?_
     refine ⟨vr, ?_, hK.out.row, hK.out.bel⟩
     rw [hmi.out]
     rfl
end Go.Proofs.YtnbibkohgppjnaaGreat.Ws
namespace Go.Proofs.YtnbibkohgppjnaaGreat.Ws
open Go.RowKit Mr Md Wt
theorem flat_le {α : Type} (B : Nat) (g : Nat → List α) : ∀ (l : List Nat), (∀ n ∈ l, (g n).length ≤ B) → (l.flatMap g).length ≤ l.length * B := by
 intro l
 induction l with
 | nil => intro _; simp
 | cons a l ih =>
  intro h
  rw [List.flatMap_cons, List.length_append, List.length_cons, Nat.add_mul, Nat.one_mul]
  have h1 := h a (by simp)
  have h2 := ih (fun n hn => h n (by simp [hn]))
  omega
noncomputable def gx (cs : List Cq) (f : Nat) (x : Ct) (o : List Nat) (n : Nat) : List (List Nat) := if nxB cs o n && (alw x (cd cs n)).2 then alls cs f (alw x (cd cs n)).1 (o ++ [n]) else []
noncomputable def px (cs : List Cq) (f : Nat) (x : Ct) (o : List Nat) (k : Nat) : List (List Nat) := (if isB cs o then [o] else []) ++ (List.range k).flatMap (gx cs f x o)
theorem px_all (cs : List Cq) (f : Nat) (x : Ct) (o : List Nat) : px cs f x o cs.length = alls cs (f + 1) x o := rfl
theorem px_succ (cs : List Cq) (f : Nat) (x : Ct) (o : List Nat) (k : Nat) : px cs f x o (k + 1) = px cs f x o k ++ gx cs f x o k := by
 unfold px
 rw [List.range_succ, List.flatMap_append, List.append_assoc]
 simp
theorem px_more (cs : List Cq) (f : Nat) (x : Ct) (o : List Nat) (k : Nat) : ∀ d, ∃ z, px cs f x o (k + d) = px cs f x o k ++ z := by
 intro d
 induction d with
 | zero => exact ⟨[], by simp⟩
 | succ d ih =>
  obtain ⟨z, hz⟩ := ih
  exact ⟨z ++ gx cs f x o (k + d), by rw [← Nat.add_assoc, px_succ, hz, List.append_assoc]⟩
theorem nx_obj {cs : List Cq} {o : List Nat} {n : Nat} (h : nxB cs o n = true) : obj (cd cs n).op ≠ 0 ∧ n ∉ o := by
 unfold nxB at h
 simp at h
 exact ⟨h.1.1, h.1.2⟩
theorem alls_le {cs : List Cq} (h8 : (scs cs).length ≤ 8) : ∀ (f : Nat) (x : Ct) (o : List Nat), (alls cs f x o).length ≤ 9 ^ f := by
 intro f
 induction f with
 | zero => intro x o; unfold alls; split <;> simp
 | succ f ih =>
  intro x o
  rw [← px_all]
  unfold px
  rw [List.length_append, List.range_eq_range', flat_cnt _ cs 0 (fun i c hc ho => ?_)]
  ·have h1 : ((if isB cs o = true then [o] else []) : List (List Nat)).length ≤ 1 := by split <;> simp
   have h2 := flat_le (9 ^ f) (gx cs f x o) ((cnt1 cs 0).map (·.1)) (fun n _ => by
    unfold gx
    split
    ·exact ih _ _
    ·simp)
   have h3 : ((cnt1 cs 0).map (·.1)).length ≤ 8 := by have := scs_len cs; unfold nms at this; omega
   have h4 := Nat.mul_le_mul_right (9 ^ f) h3
   have h5 : 0 < 9 ^ f := Nat.pow_pos (by omega)
   rw [Nat.pow_succ]
   omega
  ·rw [Nat.zero_add]
   unfold gx
   have : nxB cs o i = false := by
    cases hq : nxB cs o i with
    | false => rfl
    | true =>
     have := (nx_obj hq).1
     rw [cd_get hc] at this
     exact absurd ho this
   rw [this]
   rfl
theorem mem_nms {cs : List Cq} {i : Nat} (hi : i < cs.length) (ho : obj (cd cs i).op ≠ 0) : i ∈ nms cs := by
 obtain ⟨c, hc⟩ := get_of_lt (cs := cs) hi
 rw [cd_get hc] at ho
 obtain ⟨j, hj, h1, _⟩ := of_num hc ho
 rw [← h1, nd, List.getElem?_eq_getElem hj]
 exact List.getElem_mem hj
theorem rwalk_any {cs : List Cq} (hsm : cs.length * 72 ≤ 281474976710656) (h8 : (scs cs).length ≤ 8) (first : Bool) : ∀ (f : Nat) (x : Ct) (o : List Nat), f ≤ 8 → (scs cs).length ≤ o.length + f → o.Nodup → (∀ i ∈ o, i < cs.length ∧ obj (cd cs i).op ≠ 0) → CtIn (16 * o.length) x → WkC cs x o first (alls cs f x o) := by
 have hlen : ∀ o : List Nat, o.Nodup → (∀ i ∈ o, i < cs.length ∧ obj (cd cs i).op ≠ 0) → o.length ≤ (scs cs).length := by
  intro o h1 h2
  rw [scs_len]
  exact List.Nodup.length_le_of_subset h1 (fun i hi => mem_nms (h2 i hi).1 (h2 i hi).2)
 have hnext : ∀ (o : List Nat) (n : Nat), o.Nodup → (∀ i ∈ o, i < cs.length ∧ obj (cd cs i).op ≠ 0) → n < cs.length → nxB cs o n = true → (o ++ [n]).Nodup ∧ (∀ i ∈ o ++ [n], i < cs.length ∧ obj (cd cs i).op ≠ 0) := by
  intro o n h1 h2 hn hx
  obtain ⟨q1, q2⟩ := nx_obj hx
  refine ⟨List.nodup_append.2 ⟨h1, by simp, fun a ha b hb => by simp at hb; subst hb; exact fun e => q2 (e ▸ ha)⟩, fun i hi => ?_⟩
  rcases List.mem_append.1 hi with h | h
  ·exact h2 i h
  ·simp at h; subst h; exact ⟨hn, q1⟩
 intro f
 induction f with
 | zero =>
  intro x o hf hr h1 h2 hin
  have hol := hlen o h1 h2
  have hno : ∀ n, n < cs.length → nxB cs o n = false := fun n hn => by
   cases hq : nxB cs o n with
   | false => rfl
   | true =>
    obtain ⟨q1, q2⟩ := hnext o n h1 h2 hn hq
    have := hlen _ q1 q2
    simp at this
    omega
  have := walk_core (cs := cs) (x := x) (o := o) (first := first) (fun _ => []) (fun _ => if isB cs o then [o] else []) hsm (by omega) (fun i hi => (h2 i hi).1) (hin.mono (by omega)) (fun n hn hx => by rw [hno n hn] at hx; cases hx) (fun _ _ _ => rfl) rfl (fun k => by simp) (fun k hk => ⟨[], by simp⟩) (fun k hk => by split <;> simp)
  exact this
 | succ f ih =>
  intro x o hf hr h1 h2 hin
  have hol := hlen o h1 h2
  rw [← px_all]
  refine walk_core (gx cs f x o) (px cs f x o) hsm (by omega) (fun i hi => (h2 i hi).1) (hin.mono (by omega)) (fun n hn hx ha => ?_) (fun n hn hx => ?_) ?_ (px_succ cs f x o) (fun k hk => ?_) (fun k hk => ?_)
  ·obtain ⟨q1, q2⟩ := hnext o n h1 h2 hn hx
   have e : gx cs f x o n = alls cs f (alw x (cd cs n)).1 (o ++ [n]) := by unfold gx; rw [hx, ha]; rfl
   rw [e]
   refine ih _ _ (by omega) (by simp; omega) q1 q2 ?_
   have := alw_in hin (cd cs n)
   refine this.mono (by simp; omega)
  ·unfold gx; rw [hx]; rfl
  ·simp [px]
  ·rw [← px_succ]
   obtain ⟨d, hd⟩ := Nat.exists_eq_add_of_le (show k + 1 ≤ cs.length by omega)
   rw [hd]
   exact px_more cs f x o (k + 1) d
  ·obtain ⟨d, hd⟩ := Nat.exists_eq_add_of_le hk
   obtain ⟨z, hz⟩ := px_more cs f x o k d
   have h5 := alls_le h8 (f + 1) x o
   rw [← px_all, hd, hz, List.length_append] at h5
   have h6 : 9 ^ (f + 1) ≤ 9 ^ 8 := Nat.pow_le_pow_right (by omega) hf
   have h7 : 9 ^ 8 = 43046721 := by decide
   omega
end Go.Proofs.YtnbibkohgppjnaaGreat.Ws
namespace Go.Proofs.YtnbibkohgppjnaaGreat.Ws
open Go.RowKit
def depsOk (md : Region.Mode) (ops : Array Oper) (dep : Nat → List Nat) : Bool :=
 (List.range ops.size).all fun i => ((ops[i]?).map fun o => (o.after.all fun e => !Region.binds md e || decide (e.on < i)) && ((dep i).all fun k => o.after.any fun e => Region.binds md e && decide (e.on = k))).getD false
def upd (x : Nat → Value) (i : Nat) (y : Value) : Nat → Value := fun j => if j = i then y else x j
def upb (D : Nat → Bool) (i : Nat) : Nat → Bool := fun j => decide (j = i) || D j
section
variable {F : Fence} {n : Nat} {P : Program} {ops : Array Oper} {Q : Exit → Act → World → Prop} {md : Region.Mode}
theorem depsOk_at {dep : Nat → List Nat} (h : depsOk md ops dep = true) {i : Nat} {o : Oper} (ho : ops[i]? = some o) :
  (∀ e ∈ o.after, Region.binds md e = true → e.on < i) ∧ ∀ k ∈ dep i, ∃ e ∈ o.after, Region.binds md e = true ∧ e.on = k := by
 have hi : i < ops.size := (Array.getElem?_eq_some_iff.1 ho).1
 have := List.all_eq_true.1 h i (List.mem_range.2 hi)
 rw [ho] at this
 simp only [Option.map_some, Option.getD_some, Bool.and_eq_true] at this
 refine ⟨fun e he hb => ?_, fun k hk => ?_⟩
 ·have h1 := Array.all_eq_true'.1 this.1 e he
  rw [hb] at h1
  simpa using h1
 ·have h1 := List.all_eq_true.1 this.2 k hk
  obtain ⟨e, he, h2⟩ := Array.any_eq_true'.1 h1
  rw [Bool.and_eq_true, decide_eq_true_eq] at h2
  exact ⟨e, he, h2.1, h2.2⟩
theorem all_listed {dep : Nat → List Nat} (hc : depsOk md ops dep = true) {L : Array Bool} (hL : L.size = ops.size) (hr : Region.ready md ops L = []) : ∀ j, j < ops.size → L.getD j false = true := by
 intro j
 induction j using Nat.strongRecOn with
 | _ j ih =>
  intro hj
  cases hq : L.getD j false with
  | true => rfl
  | false =>
   exfalso
   have ho : ops[j]? = some ops[j] := Array.getElem?_eq_getElem hj
   have hm : j ∈ Region.ready md ops L := by
    refine mem_ready.2 ⟨?_, _, ho, fun e he hb => ?_⟩
    ·rw [Array.getD_eq_getD_getElem?, Array.getElem?_eq_getElem (by omega)] at hq ⊢
     exact hq
    ·have := (depsOk_at hc ho).1 e he hb
     exact ih _ this (by omega)
   rw [hr] at hm
   cases hm
theorem wpAnyIn_walk {dep : Nat → List Nat} (hc : depsOk md ops dep = true) (A : (Nat → Value) → Act) (Inv : (Nat → Bool) → (Nat → Value) → World → Prop)
  (hstep : ∀ i, i < ops.size → ∀ D x w, D i = false → (∀ k ∈ dep i, D k = true) → (∀ j, D j = true → ∀ k ∈ dep j, D k = true) → Inv D x w → ∀ K : Act → World → Prop, (∀ y w', Inv (upb D i) (upd x i y) w' → K (A (upd x i y)) w') → wpOpIn F n P ops Q i K (A x) w)
  (hend : ∀ x w, Inv (fun j => decide (j < ops.size)) x w → Q .normal (A x) w) :
  ∀ (fuel : Nat) (L : Array Bool) (x : Nat → Value) (w : World), L.size = ops.size → ((List.range ops.size).filter (fun j => !L.getD j false)).length ≤ fuel → (∀ j, L.getD j false = true → ∀ k ∈ dep j, L.getD k false = true) → Inv (fun j => L.getD j false) x w → wpAnyIn F n P md ops Q fuel L (A x) w := by
 have fin : ∀ (L : Array Bool) (x : Nat → Value) (w : World), L.size = ops.size → Region.ready md ops L = [] → Inv (fun j => L.getD j false) x w → Q .normal (A x) w := by
  intro L x w hL hr hI
  have := all_listed hc hL hr
  refine hend x w ?_
  have e : (fun j => L.getD j false) = (fun j => decide (j < ops.size)) := by
   funext j
   by_cases hj : j < ops.size
   ·rw [this j hj]; simp [hj]
   ·simp [hj, Array.getD_eq_getD_getElem?, Array.getElem?_eq_none (show L.size ≤ j by omega)]
  rw [← e]; exact hI
 intro fuel
 induction fuel with
 | zero =>
  intro L x w hL hn hcl hI
  have hr : Region.ready md ops L = [] := by
   cases hq : Region.ready md ops L with
   | nil => rfl
   | cons i l =>
    exfalso
    obtain ⟨h0, o, ho, _⟩ := mem_ready.1 (show i ∈ Region.ready md ops L by rw [hq]; simp)
    have hi : i < ops.size := (Array.getElem?_eq_some_iff.1 ho).1
    have h1 := List.eq_nil_of_length_eq_zero (Nat.le_zero.1 hn)
    have h2 := List.filter_eq_nil_iff.1 h1 i (List.mem_range.2 hi)
    rw [Array.getD_eq_getD_getElem?, Array.getElem?_eq_getElem (by omega)] at h0 h2
    simp at h0 h2
    rw [h0] at h2; cases h2
  exact ⟨hr, fin L x w hL hr hI⟩
 | succ fuel ih =>
  intro L x w hL hn hcl hI
  refine ⟨fun hr => fin L x w hL hr hI, fun i hi => ?_⟩
  obtain ⟨h0, o, ho, hd⟩ := mem_ready.1 hi
  have hil : i < ops.size := (Array.getElem?_eq_some_iff.1 ho).1
  have hDi : L.getD i false = false := by
   rw [Array.getD_eq_getD_getElem?, Array.getElem?_eq_getElem (by omega)] at h0 ⊢
   exact h0
  have hdep : ∀ k ∈ dep i, L.getD k false = true := fun k hk => by
   obtain ⟨e, he, hb, rfl⟩ := (depsOk_at hc ho).2 k hk
   exact hd e he hb
  have hup : (fun j => (L.setIfInBounds i true).getD j false) = upb (fun j => L.getD j false) i := by
   funext j
   unfold upb
   by_cases hj : j = i
   ·subst hj
    simp [Array.getD_eq_getD_getElem?, show j < L.size by omega]
   ·simp [Array.getD_eq_getD_getElem?, hj, Array.getElem?_setIfInBounds_ne (show i ≠ j from fun e => hj e.symm)]
  refine hstep i hil _ x w hDi hdep hcl hI _ (fun y w' hI' => ?_)
  rw [← hup] at hI'
  refine ih _ (upd x i y) w' (by simp [hL]) ?_ ?_ hI'
  ·have := count_flip ops.size (fun j => !L.getD j false) (fun j => !(L.setIfInBounds i true).getD j false) i hil (by simp [hDi]) (by have := congrFun hup i; simp only [upb, decide_true, Bool.true_or] at this; rw [this]; rfl) (fun j hj => by
    have := congrFun hup j
    simp only [upb, hj, decide_false, Bool.false_or] at this
    rw [this])
   omega
  ·intro j hj k hk
   have h1 := congrFun hup j
   have h2 := congrFun hup k
   simp only [upb] at h1 h2
   rw [h1] at hj
   rw [h2]
   by_cases e : j = i
   ·subst e
    simp [hdep k hk]
   ·rw [decide_eq_false e, Bool.false_or] at hj
    rw [hcl j hj k hk, Bool.or_true]
theorem wpAnyIn_walks {dep : Nat → List Nat} (hc : depsOk md ops dep = true) (A : (Nat → Value) → Act) (Inv : (Nat → Bool) → (Nat → Value) → World → Prop) {L : Array Bool} (hL : L = Array.replicate ops.size false) (x : Nat → Value) {w : World} (h0 : Inv (fun _ => false) x w)
  (hstep : ∀ i, i < ops.size → ∀ D x w, D i = false → (∀ k ∈ dep i, D k = true) → (∀ j, D j = true → ∀ k ∈ dep j, D k = true) → Inv D x w → ∀ K : Act → World → Prop, (∀ y w', Inv (upb D i) (upd x i y) w' → K (A (upd x i y)) w') → wpOpIn F n P ops Q i K (A x) w)
  (hend : ∀ x w, Inv (fun j => decide (j < ops.size)) x w → Q .normal (A x) w) : wpAnyIn F n P md ops Q ops.size L (A x) w := by
 have hg : ∀ j, L.getD j false = false := fun j => by
  rw [hL, Array.getD_eq_getD_getElem?]
  by_cases hj : j < ops.size
  ·simp [hj]
  ·simp [Array.getElem?_eq_none (show (Array.replicate ops.size false).size ≤ j by simp; omega)]
 refine wpAnyIn_walk hc A Inv hstep hend _ L x w (by rw [hL]; simp) ?_ (fun j hj => by rw [hg] at hj; cases hj) ?_
 ·exact Nat.le_trans (List.length_filter_le _ _) (by simp)
 ·rw [show (fun j => L.getD j false) = (fun _ => false) from funext hg]; exact h0
end
end Go.Proofs.YtnbibkohgppjnaaGreat.Ws
namespace Go.Proofs.YtnbibkohgppjnaaGreat.Wt
open Go.RowKit Mr Md
def srt (zs : List Int) : List Int := zs.mergeSort fun x y => decide (x ≤ y)
theorem srt_perm (zs : List Int) : (srt zs).Perm zs := List.mergeSort_perm _ _
theorem srt_len (zs : List Int) : (srt zs).length = zs.length := (srt_perm zs).length_eq
theorem srt_up (zs : List Int) : (srt zs).Pairwise (· ≤ ·) := by
 have := List.pairwise_mergeSort (le := fun x y : Int => decide (x ≤ y)) (fun a b c h1 h2 => by simp at *; omega) (fun a b => by simp; omega) zs
 exact this.imp (fun h => of_decide_eq_true h)
theorem holds_at {W : World} {g o : Nat} {cur : Array Value} {e : TypeId} {zs : List Int} (hg : W.heap[g]? = some (.cells cur e (0, 0))) (hx : (cur.toList.drop o).take (zs.length * 1) = ints zs) : Sort.Holds (Value.int .i64) W g o zs.toArray := by
 intro j hj
 have hj' : j < zs.length := by simpa using hj
 refine ⟨?_, by simp [World.frozen?, hg]⟩
 have := own_cells hg hx j _ (ints_get zs j hj')
 rw [this]
 simp [hj']
theorem sort_any {W : World} {S : Nat → Prop} {u : Value} {zs : List Int} (hu : Md.Own W S 3 1 u zs.length (ints zs)) (hsz : zs.length < 4611686018427387904) :
  Calls Tryz.prog 63 #[u] W fun e w' => e = .returned (.tuple #[]) ∧ Fr W w' S ∧ Sl w' S 1 u zs.length (ints (srt zs)) := by
 by_cases h0 : zs.length = 0
 ·obtain ⟨a, cap, rfl, hc, _⟩ := hu.form
  have hz : zs = [] := List.eq_nil_of_length_eq_zero h0
  subst hz
  refine (Tryz.slices_Sort_int_none a cap W).mono ?_
  rintro e w' ⟨rfl, rfl⟩
  exact ⟨rfl, Fr.refl _ _, by simpa [srt] using hu.sl⟩
 ·obtain ⟨g, o, cap, cur, rfl, hc, hm, hS, hg, hs, hx⟩ := hu.there (by omega)
  have hH := holds_at hg hx
  have hl := (Array.getElem?_eq_some_iff.1 hg).1
  refine (Tryz.slices_Sort_int g o cap zs W hH hl hsz).mono ?_
  rintro e w' ⟨rfl, n, os, rfl⟩
  refine ⟨rfl, ⟨rfl, rfl, rfl, by simp, fun k hk hne => ?_⟩, by simp [ints, srt_len], _, cap, rfl, hc, .inr ⟨g, o, rfl, hS, by simp; omega, fun j u hu => ?_⟩⟩
  ·rw [Sort.heap_grow_old _ _ (by simpa using hk)]
   have : g ≠ k := fun e => hne (by rw [← e]; exact hS)
   simp [Sort.putRow, Sort.mapBlock, Sort.ahead, Array.getElem?_modify, this]
  ·have hj : j < (srt zs).length := by simpa [ints] using (List.getElem?_eq_some_iff.1 hu).1
   rw [Sort.cell?_grow _ _ _ (by simpa using hl)]
   have hsz2 : (srt zs).toArray.size = zs.toArray.size := by simp [srt_len]
   have := Sort.cell?_putRow (Value.int .i64) (Sort.ahead W n) g o zs.toArray (srt zs).toArray hH hsz2 j (by simpa using hj)
   unfold srt at this
   rw [this]
   simp [ints, srt] at hu
   obtain ⟨a, h1, h2⟩ := hu
   rw [← h2]
   simp [srt] at hj
   simp [h1]
end Go.Proofs.YtnbibkohgppjnaaGreat.Wt
namespace Go.Proofs.YtnbibkohgppjnaaGreat.Wt
open Go.RowKit Mr Md
set_option maxHeartbeats 8000000 in
theorem apart_any {W : World} {T : Nat → Prop} {v : Value} {cs : List Cq} (hv : Sl W T 9 v cs.length (cqs cs)) (hsm : cs.length * 72 ≤ 281474976710656) (b : Bool) (hb : b = true ↔ (mvl cs).Nodup) :
  Calls Tryz.prog 41 #[v] W fun e w' => e = .returned (.bool b) ∧ Below W.heap.size W w' := by
 obtain ⟨a, cap, rfl, hcap⟩ := hv.form
 obtain ⟨i0, hi0, hz0, hz1, hz2⟩ := parts_of wt_int
 obtain ⟨n, hn⟩ : ∃ n, n = cs.length := ⟨_, rfl⟩
 have hv' := hv
 rw [← hn] at hv hsm hcap ⊢
 rw [hn] at hv
 replace hn := Mr.hid hn
 replace hv := Mr.hid hv
 replace hb := Mr.hid hb
 clear hv'
 go_enter Tryz.func41, Tryz.ntmps41
 go_wp2
 go_loopg [3, 9] n (fun k s3 s9 wr => ∃ i : Nat, s9 = .int .i64 (i : Int) ∧ i + k = n ∧ Below W.heap.size W wr ∧ Md.Own wr (fun k => W.heap.size ≤ k) 3 1 s3 (mvl (cs.take i)).length (ints (mvl (cs.take i))))
 case atStart => exact ⟨0, rfl, by omega, Below.refl _ _, Md.Own.zero _ _ _ _ _⟩
 case round =>
  obtain ⟨i, rfl, hi, B, ho⟩ := hrel
  by_cases hlt : i < n
  ·obtain ⟨c, hci⟩ := get_of_lt (cs := cs) (i := i) (by have := hn.out; omega)
   obtain ⟨bc, oc, rfl, A9⟩ := call_at (hv.out.below B) hci
   obtain ⟨u, cu, rfl, hcu, hcm⟩ := ho.form
   obtain ⟨l, hl⟩ : ∃ l, l = mvl (cs.take i) := ⟨_, rfl⟩
   rw [← hl] at ho hcu ⊢
   have AF := fun w1 => Ap.first (w1 := w1) B ho c
   have hll : l.length ≤ 3 * i := by rw [hl]; exact Nat.le_trans (mvl_len _) (by simp; omega)
   have hnx := mvl_take cs i c hci
   rw [← hl] at hnx
   obtain ⟨hbl, g0, g1, g2, g3, g4, g5, g6, g7, g8⟩ := A9
   have hlI : (i : Int) < (n : Int) := by omega
   have ED := fun w => ended_any c w
   unfold Cq.val at ED
   clear ho hl
   replace AF := Mr.hid AF
   replace hnx := Mr.hid hnx
   replace hci := Mr.hid hci
   replace B := Mr.hid B
   replace ED := Mr.hid ED
   go_upto_region 5 with (fail)
   have hA := AF.out _ rfl
   unfold cqO at hA
   clear AF g0 g1 g2 g3 g4 g5 g6 g7 g8 hbl B
   generalize (wr.alloc (Obj.cells #[.int .i64 c.th, .int .i64 c.op, .int .i64 c.arg, .int .i64 c.data, .int .i64 c.beg, .int .i64 c.fin, .int .i64 c.pt, .int .i64 c.ak, .int .i64 c.av] 45 (0, 0))) = w5 at *
   generalize wr.heap.size = bx at *
   clear wr
   replace hA := Mr.hid hA
   obtain ⟨k0, k1, k2, k3, k4, k5, k6, k7, k8, kl⟩ := cq_cells hA.out.box
   go_upto_region 6 with (at_builtin; refine wpList_append_mine _ rfl (.tmp 13) (.tmp 16) 24 rfl (fun k => W.heap.size ≤ k ∧ k ≠ bx) 3 i0 _ 1 8 Tryz.underlying24 hi0 hz0 hz1 hz2 rfl _ (l).length (ints (l)) rfl (hA.out.own.below ((Below.refl _ _).alloc (Nat.le_refl _) _)) (some ⟨w5.heap.size, 0, none⟩) 1 1 [.int .i64 c.beg] rfl rfl (fun e => by cases e) (new1 rfl) (by simp [Value.oneCell']) (by unfold maxLen; omega) (by omega) ?_; intro b5 cap5 w6 hown hfr; have hX := hA.out.app rfl hown hfr; clear hown hfr; replace hX := Mr.hid hX)
   clear k0 k1 k2 k3 k4 k5 k6 k7 k8 kl
   replace hA := hX.out
   clear hX
   obtain ⟨l1, hl1⟩ : ∃ l1, l1 = l ++ [c.beg] := ⟨_, rfl⟩
   have ql1 : l.length + 1 = l1.length := by rw [hl1]; simp
   rw [← hl1, ql1] at hA
   rw [ql1]
   replace ql1 : l1.length ≤ 3 * i + 1 := by omega
   replace hl1 := Mr.hid hl1
   replace hA := Mr.hid hA
   obtain ⟨k0, k1, k2, k3, k4, k5, k6, k7, k8, kl⟩ := cq_cells hA.out.box
   by_cases e1 : c.fin = -1
   ·have hE : endB c = false := by simp [endB, e1]
    replace e1 := Mr.hid e1
    replace ED := ED.out
    rw [hE] at ED
    replace ED := Mr.hid ED
    go_upto_region 8 with (go_at_call 27; refine (ED.out _).mono ?_; clear ED; rintro e w7 ⟨rfl, hB7⟩; clear k0 k1 k2 k3 k4 k5 k6 k7 k8 kl; replace hA := Mr.hid (hA.out.below hB7); clear hB7; obtain ⟨k0, k1, k2, k3, k4, k5, k6, k7, k8, kl⟩ := cq_cells hA.out.box)
    by_cases e2 : c.pt = -1
    ·have e2' : (c.pt != -1) = false := by simp [e2]
     have e3 := Mr.hid trivial
     replace e2 := Mr.hid e2
     have hfin : Hid (mvl (cs.take (i + 1)) = l1) := by show mvl (cs.take (i + 1)) = l1; rw [hnx.out, hl1.out]; simp [mvc, e1.out, e2.out, e3.out]
     go_wp2
     go_roundg (gk - 1)
     case measure => omega
     case rel => exact ⟨i + 1, by simp, by omega, hA.out.bel, by rw [hfin.out]; exact hA.out.done⟩
    ·have e2' : (c.pt != -1) = true := by simp [e2]
     replace e2 := Mr.hid e2
     by_cases e3 : c.pt = c.fin
     ·exact absurd (e3.trans e1.out) e2.out
     ·have e3' : (c.pt != c.fin) = true := by simp [e3]
      replace e3 := Mr.hid e3
      have hfin : Hid (mvl (cs.take (i + 1)) = l1 ++ [c.pt]) := by show mvl (cs.take (i + 1)) = l1 ++ [c.pt]; rw [hnx.out, hl1.out]; simp [mvc, e1.out, e2.out, e3.out]
      go_wp2_with (at_builtin; refine wpList_append_mine _ rfl (.tmp 35) (.tmp 38) 24 rfl (fun k => W.heap.size ≤ k ∧ k ≠ bx) 3 i0 _ 1 8 Tryz.underlying24 hi0 hz0 hz1 hz2 rfl _ (l1).length (ints (l1)) rfl (hA.out.own.below ((Below.refl _ _).alloc (Nat.le_refl _) _)) (some ⟨w7.heap.size, 0, none⟩) 1 1 [.int .i64 c.pt] rfl rfl (fun e => by cases e) (new1 rfl) (by simp [Value.oneCell']) (by unfold maxLen; omega) (by omega) ?_; intro b9 cap9 w9 hown hfr; have hX := hA.out.app rfl hown hfr; clear hown hfr; replace hX := Mr.hid hX)
      go_roundg (gk - 1)
      case measure => omega
      case rel => exact ⟨i + 1, by simp, by omega, hX.out.bel, by rw [hfin.out]; exact hX.out.done⟩
   ·have hE : endB c = true := by simp [endB, e1]
    replace e1 := Mr.hid e1
    replace ED := ED.out
    rw [hE] at ED
    replace ED := Mr.hid ED
    go_upto_region 7 with (go_at_call 27; refine (ED.out _).mono ?_; clear ED; rintro e w7 ⟨rfl, hB7⟩; clear k0 k1 k2 k3 k4 k5 k6 k7 k8 kl; replace hA := Mr.hid (hA.out.below hB7); clear hB7; obtain ⟨k0, k1, k2, k3, k4, k5, k6, k7, k8, kl⟩ := cq_cells hA.out.box)
    go_upto_region 8 with (at_builtin; refine wpList_append_mine _ rfl (.tmp 20) (.tmp 23) 24 rfl (fun k => W.heap.size ≤ k ∧ k ≠ bx) 3 i0 _ 1 8 Tryz.underlying24 hi0 hz0 hz1 hz2 rfl _ (l1).length (ints (l1)) rfl (hA.out.own.below ((Below.refl _ _).alloc (Nat.le_refl _) _)) (some ⟨w7.heap.size, 0, none⟩) 1 1 [.int .i64 c.fin] rfl rfl (fun e => by cases e) (new1 rfl) (by simp [Value.oneCell']) (by unfold maxLen; omega) (by omega) ?_; intro b7 cap7 w8 hown hfr; have hX := hA.out.app rfl hown hfr; clear hown hfr; replace hX := Mr.hid hX)
    clear k0 k1 k2 k3 k4 k5 k6 k7 k8 kl
    replace hA := hX.out
    clear hX
    obtain ⟨l2, hl2⟩ : ∃ l2, l2 = l1 ++ [c.fin] := ⟨_, rfl⟩
    have ql2 : l1.length + 1 = l2.length := by rw [hl2]; simp
    rw [← hl2, ql2] at hA
    rw [ql2]
    replace ql2 : l2.length ≤ 3 * i + 2 := by omega
    replace hl2 := Mr.hid hl2
    replace hA := Mr.hid hA
    obtain ⟨k0, k1, k2, k3, k4, k5, k6, k7, k8, kl⟩ := cq_cells hA.out.box
    by_cases e2 : c.pt = -1
    ·have e2' : (c.pt != -1) = false := by simp [e2]
     have e3 := Mr.hid trivial
     replace e2 := Mr.hid e2
     have hfin : Hid (mvl (cs.take (i + 1)) = l2) := by show mvl (cs.take (i + 1)) = l2; rw [hnx.out, hl2.out, hl1.out]; simp [mvc, e1.out, e2.out, e3.out]
     go_wp2
     go_roundg (gk - 1)
     case measure => omega
     case rel => exact ⟨i + 1, by simp, by omega, hA.out.bel, by rw [hfin.out]; exact hA.out.done⟩
    ·have e2' : (c.pt != -1) = true := by simp [e2]
     replace e2 := Mr.hid e2
     by_cases e3 : c.pt = c.fin
     ·have e3' : (c.pt != c.fin) = false := by simp [e3]
      replace e3 := Mr.hid e3
      have hfin : Hid (mvl (cs.take (i + 1)) = l2) := by show mvl (cs.take (i + 1)) = l2; rw [hnx.out, hl2.out, hl1.out]; simp [mvc, e1.out, e2.out, e3.out]
      go_wp2
      go_roundg (gk - 1)
      case measure => omega
      case rel => exact ⟨i + 1, by simp, by omega, hA.out.bel, by rw [hfin.out]; exact hA.out.done⟩
     ·have e3' : (c.pt != c.fin) = true := by simp [e3]
      replace e3 := Mr.hid e3
      have hfin : Hid (mvl (cs.take (i + 1)) = l2 ++ [c.pt]) := by show mvl (cs.take (i + 1)) = l2 ++ [c.pt]; rw [hnx.out, hl2.out, hl1.out]; simp [mvc, e1.out, e2.out, e3.out]
      go_wp2_with (at_builtin; refine wpList_append_mine _ rfl (.tmp 35) (.tmp 38) 24 rfl (fun k => W.heap.size ≤ k ∧ k ≠ bx) 3 i0 _ 1 8 Tryz.underlying24 hi0 hz0 hz1 hz2 rfl _ (l2).length (ints (l2)) rfl (hA.out.own.below ((Below.refl _ _).alloc (Nat.le_refl _) _)) (some ⟨w8.heap.size, 0, none⟩) 1 1 [.int .i64 c.pt] rfl rfl (fun e => by cases e) (new1 rfl) (by simp [Value.oneCell']) (by unfold maxLen; omega) (by omega) ?_; intro b9 cap9 w9 hown hfr; have hX := hA.out.app rfl hown hfr; clear hown hfr; replace hX := Mr.hid hX)
      go_roundg (gk - 1)
      case measure => omega
      case rel => exact ⟨i + 1, by simp, by omega, hX.out.bel, by rw [hfin.out]; exact hX.out.done⟩
  ·have hin : i = cs.length := by have := hn.out; omega
   rw [hin, List.take_length] at ho
   obtain ⟨l, hl⟩ : ∃ l, l = mvl cs := ⟨_, rfl⟩
   rw [← hl] at ho
   have hb2 : b = true ↔ ∀ i x y, (srt l)[i]? = some x → (srt l)[i + 1]? = some y → y ≠ x := by rw [hb.out, ← hl, ← (srt_perm l).nodup_iff]; exact sorted_nodup (srt_up l)
   have hll : l.length ≤ 3 * n := by rw [hl, hn.out]; exact mvl_len _
   have SO := sort_any ho (by omega)
   obtain ⟨u, cu, rfl, hcu, hcm⟩ := ho.form
   have hsl := srt_len l
   obtain ⟨s, hs⟩ : ∃ s, s = srt l := ⟨_, rfl⟩
   rw [← hs] at hb2 SO hsl
   obtain ⟨m, hm⟩ : ∃ m, m = l.length := ⟨_, rfl⟩
   rw [← hm] at SO hcu hsl hll ⊢
   clear hb ho hl hs hin hm
   have dl : decide ((i : Int) < (n : Int)) = false := decide_eq_false (by omega)
   replace SO := Mr.hid SO
   replace hb2 := Mr.hid hb2
   replace B := Mr.hid B
   replace hsl := Mr.hid hsl
   go_wp2_with (go_at_call 63; refine SO.out.mono ?_; clear SO; rintro e w2 ⟨rfl, hf2, hS2⟩; have hB2 : Below W.heap.size W w2 := ⟨hf2.os.trans B.out.os, hf2.tape.trans B.out.tape, hf2.output.trans B.out.output, Nat.le_trans B.out.size hf2.size, fun k hk => (hf2.block k (Nat.lt_of_lt_of_le hk B.out.size) (by omega)).trans (B.out.block k hk)⟩; clear hf2 B; replace hB2 := Mr.hid hB2; replace hS2 := Mr.hid hS2)
   go_loopg [6] m (fun k s6 wr => ∃ i : Nat, s6 = .int .i64 ((i : Int) + 1) ∧ i + k = m ∧ Below W.heap.size W wr ∧ Below w2.heap.size w2 wr ∧ ∀ j x y, j < i → s[j]? = some x → s[j + 1]? = some y → y ≠ x)
   case atStart => exact ⟨0, rfl, by omega, hB2.out, Below.refl _ _, fun j x y hj => by omega⟩
   case round =>
    obtain ⟨i, rfl, hi, B, B2, ht⟩ := hrel
    by_cases hlt : i + 1 < m
    ·obtain ⟨gu, ou, cu', hgu, _, _, hul, ru⟩ := (hS2.out.below B2).there (by omega)
     cases hgu
     have hx1 : s[i + 1]? = some (s[i + 1]'(by have := hsl.out; omega)) := List.getElem?_eq_getElem _
     have hx0 : s[i]? = some (s[i]'(by have := hsl.out; omega)) := List.getElem?_eq_getElem _
     obtain ⟨y1, hy1⟩ : ∃ y, y = s[i + 1]'(by have := hsl.out; omega) := ⟨_, rfl⟩
     obtain ⟨y0, hy0⟩ : ∃ y, y = s[i]'(by have := hsl.out; omega) := ⟨_, rfl⟩
     rw [← hy1] at hx1
     rw [← hy0] at hx0
     clear hy0 hy1
     have k1 := ru (i + 1) _ (by rw [ints, List.getElem?_map, hx1]; rfl)
     have k0 := ru i _ (by rw [ints, List.getElem?_map, hx0]; rfl)
     have hli : ((i : Int) + 1) < (m : Int) := by omega
     have ewr : IntKind.i64.wrap ((i : Int) + 1 - 1) = (i : Int) := by rw [show (i : Int) + 1 - 1 = (i : Int) from by omega]; exact i64x _ (by omega) (by omega)
     have e1 : ((i : Int) + 1).toNat = i + 1 := by omega
     clear ru
     replace B := Mr.hid B
     replace B2 := Mr.hid B2
     replace ht := Mr.hid ht
     replace hx1 := Mr.hid hx1
     replace hx0 := Mr.hid hx0
     go_upto_region 15 with (fail)
     go_quiet (fail)
     have hBq := Bx.draws W.heap.size wr nq
     have hBq2 := Bx.draws w2.heap.size wr nq
     have hB := Mr.hid (B.out.trans hBq)
     have hC2 := Mr.hid (B2.out.trans hBq2)
     clear hBq hBq2 k1 k0 hul B B2
     generalize wr.drewN nq = W6 at *
     by_cases he : y1 = y0
     ·have hbf : b = false := by
       cases hbb : b with
       | false => rfl
       | true => exact absurd he (hb2.out.1 hbb i y0 y1 hx0.out hx1.out)
      have he2 : (y1 == y0) = true := by simp [he]
      subst hbf
      go_wp2
      go_ret
      exact ⟨rfl, hB.out⟩
     ·have he2 : (y1 == y0) = false := by simp [he]
      go_wp2
      go_roundg (gk - 1)
      case measure => omega
      case rel => exact ⟨i + 1, by simp, by omega, hB.out, hC2.out, fun j x y hj hx hy => by
       by_cases hji : j < i
       ·exact ht.out j x y hji hx hy
       ·have : j = i := by omega
        subst this
        rw [hx0.out] at hx; rw [hx1.out] at hy; cases hx; cases hy; exact he⟩
    ·have hbt : b = true := hb2.out.2 (fun j x y hx hy => ht j x y (by have := (List.getElem?_eq_some_iff.1 hy).1; have := hsl.out; omega) hx hy)
     subst hbt
     have dl2 : decide (((i : Int) + 1) < (m : Int)) = false := decide_eq_false (by omega)
     replace B := Mr.hid B
     clear ht
     go_wp2
     go_ret
     exact ⟨rfl, B.out⟩
end Go.Proofs.YtnbibkohgppjnaaGreat.Wt
namespace Go.Proofs.YtnbibkohgppjnaaGreat.Wt
open Go.RowKit Mr Md
def lastL (cs : List Cq) (i : Nat) : List Value := (List.range 16).map fun (t : Nat) => Value.int .i64 ((lastT cs (t : Int) i : Nat) : Int)
def lastA (cs : List Cq) (i : Nat) : Array Value := (lastL cs i).toArray
theorem lastA_get (cs : List Cq) (i : Nat) {t : Int} (h0 : 0 ≤ t) (h1 : t < 16) : (lastA cs i)[t.toNat]? = some (.int .i64 ((lastT cs t i : Nat) : Int)) := by
 have e : ((t.toNat : Nat) : Int) = t := by omega
 simp [lastA, lastL, show t.toNat < 16 by omega, e, show max t 0 = t by omega]
theorem lastA_zero (cs : List Cq) : lastA cs 0 = #[.int .i64 0, .int .i64 0, .int .i64 0, .int .i64 0, .int .i64 0, .int .i64 0, .int .i64 0, .int .i64 0, .int .i64 0, .int .i64 0, .int .i64 0, .int .i64 0, .int .i64 0, .int .i64 0, .int .i64 0, .int .i64 0] := by
 simp [lastA, lastL, lastT, List.range, List.range.loop]
theorem lastA_size (cs : List Cq) (i : Nat) : (lastA cs i).size = 16 := by simp [lastA, lastL]
theorem lastA_set {cs : List Cq} {i : Nat} {c : Cq} (hc : cs[i]? = some c) (h0 : 0 ≤ c.th) (h1 : c.th < 16) : (lastA cs i).setIfInBounds c.th.toNat (.int .i64 ((i : Int) + 1)) = lastA cs (i + 1) := by
 apply Array.ext
 ·simp [lastA_size]
 ·intro j hj1 hj2
  have hj : j < 16 := by simpa [lastA_size] using hj2
  rw [Array.getElem_setIfInBounds (by rw [lastA_size]; exact hj)]
  by_cases e : c.th.toNat = j
  ·rw [if_pos e]
   have e2 : ((j : Nat) : Int) = c.th := by omega
   simp [lastA, lastL, e2, lastT_hit hc]
  ·rw [if_neg e]
   have e2 : c.th ≠ ((j : Nat) : Int) := by omega
   simp [lastA, lastL, lastT_miss hc e2]
theorem make16 (W : World) :
  (Instr.makeSlice 24 (.int .i64 16) (.int .i64 16)).run Tryz.prog W = .ok (.slice (some ⟨W.heap.size, 0, none⟩) 16 16) (W.alloc (.cells #[.int .i64 0, .int .i64 0, .int .i64 0, .int .i64 0, .int .i64 0, .int .i64 0, .int .i64 0, .int .i64 0, .int .i64 0, .int .i64 0, .int .i64 0, .int .i64 0, .int .i64 0, .int .i64 0, .int .i64 0, .int .i64 0] 3 (0, 0))) := by
 obtain ⟨i0, hi, hz0, hz1, hz2⟩ := parts_of wt_int
 have h := run_make (P := Tryz.prog) W 24 3 i0 (.int .i64 0) Tryz.underlying24 hi hz0 .i64 .i64 16 16 (by omega) (Int.le_refl _) (by rw [hz2]; omega) (by omega)
 have e : (16 : Int).toNat = 16 := by decide
 rw [e, hz1, Nat.mul_one] at h
 have e2 : madeCells (Value.int .i64 0).cells 16 = #[.int .i64 0, .int .i64 0, .int .i64 0, .int .i64 0, .int .i64 0, .int .i64 0, .int .i64 0, .int .i64 0, .int .i64 0, .int .i64 0, .int .i64 0, .int .i64 0, .int .i64 0, .int .i64 0, .int .i64 0, .int .i64 0] := by kernel_rfl
 rw [e2] at h
 exact h
structure Tn (W w : World) (b : Nat) (ty : TypeId) (cs : List Cq) (i : Nat) : Prop where
 bel : Below W.heap.size W w
 up : W.heap.size ≤ b
 box : w.heap[b]? = some (.cells (lastA cs i) ty (0, 0))
theorem Tn.below {W w w' : World} {b : Nat} {ty : TypeId} {cs : List Cq} {i : Nat} (h : Tn W w b ty cs i) (hB : Below w.heap.size w w') : Tn W w' b ty cs i :=
 ⟨h.bel.trans (hB.mono h.bel.size), h.up, (hB.block _ (Array.getElem?_eq_some_iff.1 h.box).1).trans h.box⟩
theorem Tn.get {W w : World} {b : Nat} {ty : TypeId} {cs : List Cq} {i : Nat} (h : Tn W w b ty cs i) {t : Int} (h0 : 0 ≤ t) (h1 : t < 16) : w.cell? ⟨b, t.toNat, none⟩ = some (.int .i64 ((lastT cs t i : Nat) : Int)) ∧ w.frozen? ⟨b, t.toNat, none⟩ = false ∧ b < w.heap.size := by
 refine ⟨?_, by simp [World.frozen?, h.box], (Array.getElem?_eq_some_iff.1 h.box).1⟩
 rw [cell_blk h.box, lastA_get cs i h0 h1]
theorem Tn.next {W w : World} {b : Nat} {ty : TypeId} {cs : List Cq} {i : Nat} (h : Tn W w b ty cs i) {c : Cq} (hc : cs[i]? = some c) (h0 : 0 ≤ c.th) (h1 : c.th < 16) : Tn W (w.setCell ⟨b, c.th.toNat, none⟩ (.int .i64 ((i : Int) + 1))) b ty cs (i + 1) :=
 ⟨h.bel.setCell (p := ⟨b, _, none⟩) h.up _, h.up, by rw [setBlk h.box, lastA_set hc h0 h1]⟩
end Go.Proofs.YtnbibkohgppjnaaGreat.Wt
namespace Go.Proofs.YtnbibkohgppjnaaGreat.Wt
open Go.RowKit Mr Md
set_option maxHeartbeats 8000000 in
theorem inTurn_any {W : World} {T : Nat → Prop} {v : Value} {cs : List Cq} (hv : Sl W T 9 v cs.length (cqs cs)) (hsm : cs.length * 72 ≤ 281474976710656) (hU : Up cs cs.length) (b : Bool) (hb : b = true ↔ Turn AhP cs cs.length) :
  Calls Tryz.prog 42 #[v] W fun e w' => e = .returned (.bool b) ∧ Below W.heap.size W w' := by
 obtain ⟨a, cap, rfl, hcap⟩ := hv.form
 obtain ⟨n, hn⟩ : ∃ n, n = cs.length := ⟨_, rfl⟩
 rw [← hn] at hsm hcap hb
 replace hU := Mr.hid hU
 replace hv := Mr.hid hv
 replace hb := Mr.hid hb
 rw [← hn]
 replace hn := Mr.hid hn
 have hT0 : ∀ w1, w1 = W.alloc (.cells #[.int .i64 0, .int .i64 0, .int .i64 0, .int .i64 0, .int .i64 0, .int .i64 0, .int .i64 0, .int .i64 0, .int .i64 0, .int .i64 0, .int .i64 0, .int .i64 0, .int .i64 0, .int .i64 0, .int .i64 0, .int .i64 0] 109 (0, 0)) → Tn W w1 W.heap.size 109 cs 0 := by
  rintro w1 rfl
  exact ⟨(Below.refl _ _).alloc (Nat.le_refl _) _, Nat.le_refl _, by rw [lastA_zero]; exact new_at _ _ _ rfl⟩
 replace hT0 := Mr.hid hT0
 go_enter Tryz.func42, Tryz.ntmps42
 go_upto_region 2 with (fail)
 have hT := hT0.out _ rfl
 clear hT0
 generalize (W.alloc (.cells #[.int .i64 0, .int .i64 0, .int .i64 0, .int .i64 0, .int .i64 0, .int .i64 0, .int .i64 0, .int .i64 0, .int .i64 0, .int .i64 0, .int .i64 0, .int .i64 0, .int .i64 0, .int .i64 0, .int .i64 0, .int .i64 0] 109 (0, 0))) = w1 at *
 obtain ⟨ba, hba⟩ : ∃ ba, ba = W.heap.size := ⟨_, rfl⟩
 rw [← hba] at hT
 rw [← hba]
 clear hba
 replace hT := Mr.hid hT
 go_wp2
 go_loopg [9] n (fun k s9 wr => ∃ i : Nat, s9 = .int .i64 (i : Int) ∧ i + k = n ∧ Turn AhP cs i ∧ Tn W wr ba 109 cs i)
 case atStart => exact ⟨0, rfl, by omega, Turn.zero _ _, hT.out⟩
 case round =>
  clear hT
  obtain ⟨i, rfl, hi, hR, hT⟩ := hrel
  by_cases hlt : i < n
  ·obtain ⟨c, hci⟩ := get_of_lt (cs := cs) (i := i) (by have := hn.out; omega)
   obtain ⟨bc, oc, rfl, A9⟩ := call_at (hv.out.below hT.bel) hci
   obtain ⟨t0, t1, -, -⟩ := hU.out.fit (by have := hn.out; omega) hci
   have hTA := fun o => hT.below ((Below.refl wr.heap.size wr).alloc (Nat.le_refl _) o)
   have hbx : ∀ w1, w1 = wr.alloc (cqO c) → w1.heap[wr.heap.size]? = some (cqO c) := by rintro w1 rfl; exact new_at _ _ _ rfl
   obtain ⟨hbl, g0, g1, g2, g3, g4, g5, g6, g7, g8⟩ := A9
   obtain ⟨z1, z2, z3⟩ := (hTA (cqO c)).get t0 t1
   have hlI : (i : Int) < (n : Int) := by omega
   have hml := lastT_le cs c.th i
   unfold cqO at z1 z2
   replace hTA := Mr.hid hTA
   replace hbx := Mr.hid hbx
   replace hR := Mr.hid hR
   replace hci := Mr.hid hci
   clear hT
   obtain ⟨m0, hm0⟩ : ∃ m0, m0 = lastT cs c.th i := ⟨_, rfl⟩
   rw [← hm0] at z1 hml
   replace hm0 := Mr.hid hm0
   go_upto_region 6 with (fail)
   have hT := hTA.out (cqO c)
   have hB := hbx.out _ rfl
   unfold cqO at hT hB
   clear hTA hbx g0 g1 g2 g3 g4 g5 g6 g7 g8 hbl z1 z2 z3
   generalize (wr.alloc (Obj.cells #[.int .i64 c.th, .int .i64 c.op, .int .i64 c.arg, .int .i64 c.data, .int .i64 c.beg, .int .i64 c.fin, .int .i64 c.pt, .int .i64 c.ak, .int .i64 c.av] 45 (0, 0))) = w5 at *
   generalize wr.heap.size = bx at *
   clear wr
   have NX : ∀ w, Tn W w ba 109 cs i → Tn W (w.setCell ⟨ba, c.th.toNat, none⟩ (.int .i64 ((i : Int) + 1))) ba 109 cs (i + 1) := fun w h => h.next hci.out t0 t1
   have GT : ∀ w, Tn W w ba 109 cs i → w.cell? ⟨ba, c.th.toNat, none⟩ = some (.int .i64 (m0 : Int)) ∧ w.frozen? ⟨ba, c.th.toNat, none⟩ = false ∧ ba < w.heap.size := fun w h => by rw [hm0.out]; exact h.get t0 t1
   have hw : IntKind.i64.wrap ((i : Int) + 1) = (i : Int) + 1 := i64x _ (by omega) (by omega)
   replace NX := Mr.hid NX
   replace GT := Mr.hid GT
   by_cases hm : m0 = 0
   ·have hok : Turn AhP cs (i + 1) := hR.out.succ hci.out (fun d h0 => by rw [← hm0.out, hm] at h0; omega)
    subst hm
    obtain ⟨k0, k1, k2, k3, k4, k5, k6, k7, k8, kl⟩ := cq_cells (c := c) hB
    obtain ⟨z1, z2, z3⟩ := GT.out _ hT
    replace hT := Mr.hid hT
    replace hok := Mr.hid hok
    go_quiet (fail)
    go_wp2
    go_roundg (gk - 1)
    case measure => omega
    case rel => exact ⟨i + 1, by simp, by omega, hok.out, NX.out _ (hT.out.below (Bx.draws _ _ nq))⟩
   ·obtain ⟨m, rfl⟩ : ∃ m, m0 = m + 1 := ⟨m0 - 1, by omega⟩
    obtain ⟨d, hdm⟩ := get_of_lt (cs := cs) (i := m) (by have := hn.out; omega)
    obtain ⟨bc', oc', hbo, A9⟩ := call_at (hv.out.below hT.bel) hdm
    cases hbo
    obtain ⟨hbl, d0, d1, d2, d3, d4, d5, d6, d7, d8⟩ := A9
    obtain ⟨k0, k1, k2, k3, k4, k5, k6, k7, k8, kl⟩ := cq_cells (c := c) hB
    have hmw : IntKind.i64.wrap (((m + 1 : Nat) : Int) - 1) = (m : Int) := by rw [show ((m + 1 : Nat) : Int) - 1 = (m : Int) from by omega]; exact i64x _ (by omega) (by omega)
    have hmw2 : IntKind.i64.wrap (m : Int) = (m : Int) := i64x _ (by omega) (by omega)
    have hmw3 : IntKind.i64.wrap ((m : Int) + 1 - 1) = (m : Int) := by rw [show (m : Int) + 1 - 1 = (m : Int) from by omega]; exact i64x _ (by omega) (by omega)
    have hm3 : (0 : Int) < (m : Int) + 1 := by omega
    have hm0' : (0 : Int) < ((m + 1 : Nat) : Int) := by omega
    have hm1 : (0 : Int) ≤ (m : Int) := by omega
    have hm2 : (m : Int) < (n : Int) := by omega
    have AA := fun w => ahead_any d c w
    unfold Cq.val at AA
    obtain ⟨q, hq⟩ : ∃ q, q = ahB d c := ⟨_, rfl⟩
    rw [← hq] at AA
    have hok : q = true → Turn AhP cs (i + 1) := fun h => hR.out.succ hci.out (fun d' h0 hd' => by
     rw [← hm0.out, Nat.add_sub_cancel, hdm] at hd'; cases hd'
     rw [hq] at h; simp [ahB] at h; exact h)
    have hno : q = false → b = false := fun h => by
     cases hbb : b with
     | false => rfl
     | true =>
      have h2 := hb.out.1 hbb i hlt c d hci.out (by rw [← hm0.out]; omega) (by rw [← hm0.out, Nat.add_sub_cancel]; exact hdm)
      rw [hq] at h; simp [ahB, AhP] at h h2; omega
    replace AA := Mr.hid AA
    replace hq := Mr.hid hq
    replace hok := Mr.hid hok
    replace hno := Mr.hid hno
    replace hT := Mr.hid hT
    replace hdm := Mr.hid hdm
    have KK : Hid (∀ w', Below w5.heap.size w5 w' → w'.cell? ⟨bc, oc + m * 9, none⟩ = some (.int .i64 d.th) ∧ w'.cell? ⟨bc, oc + m * 9 + 1, none⟩ = some (.int .i64 d.op) ∧ w'.cell? ⟨bc, oc + m * 9 + 2, none⟩ = some (.int .i64 d.arg) ∧ w'.cell? ⟨bc, oc + m * 9 + 3, none⟩ = some (.int .i64 d.data) ∧ w'.cell? ⟨bc, oc + m * 9 + 4, none⟩ = some (.int .i64 d.beg) ∧ w'.cell? ⟨bc, oc + m * 9 + 5, none⟩ = some (.int .i64 d.fin) ∧ w'.cell? ⟨bc, oc + m * 9 + 6, none⟩ = some (.int .i64 d.pt) ∧ w'.cell? ⟨bc, oc + m * 9 + 7, none⟩ = some (.int .i64 d.ak) ∧ w'.cell? ⟨bc, oc + m * 9 + 8, none⟩ = some (.int .i64 d.av) ∧ w'.cell? ⟨bx, 0, none⟩ = some (.int .i64 c.th) ∧ w'.cell? ⟨bx, 1, none⟩ = some (.int .i64 c.op) ∧ w'.cell? ⟨bx, 2, none⟩ = some (.int .i64 c.arg) ∧ w'.cell? ⟨bx, 3, none⟩ = some (.int .i64 c.data) ∧ w'.cell? ⟨bx, 4, none⟩ = some (.int .i64 c.beg) ∧ w'.cell? ⟨bx, 5, none⟩ = some (.int .i64 c.fin) ∧ w'.cell? ⟨bx, 6, none⟩ = some (.int .i64 c.pt) ∧ w'.cell? ⟨bx, 7, none⟩ = some (.int .i64 c.ak) ∧ w'.cell? ⟨bx, 8, none⟩ = some (.int .i64 c.av)) := fun w' hB => ⟨(hB.cell (p := ⟨bc, _, none⟩) hbl).trans d0, (hB.cell (p := ⟨bc, _, none⟩) hbl).trans d1, (hB.cell (p := ⟨bc, _, none⟩) hbl).trans d2, (hB.cell (p := ⟨bc, _, none⟩) hbl).trans d3, (hB.cell (p := ⟨bc, _, none⟩) hbl).trans d4, (hB.cell (p := ⟨bc, _, none⟩) hbl).trans d5, (hB.cell (p := ⟨bc, _, none⟩) hbl).trans d6, (hB.cell (p := ⟨bc, _, none⟩) hbl).trans d7, (hB.cell (p := ⟨bc, _, none⟩) hbl).trans d8, (hB.cell (p := ⟨bx, _, none⟩) kl).trans k0, (hB.cell (p := ⟨bx, _, none⟩) kl).trans k1, (hB.cell (p := ⟨bx, _, none⟩) kl).trans k2, (hB.cell (p := ⟨bx, _, none⟩) kl).trans k3, (hB.cell (p := ⟨bx, _, none⟩) kl).trans k4, (hB.cell (p := ⟨bx, _, none⟩) kl).trans k5, (hB.cell (p := ⟨bx, _, none⟩) kl).trans k6, (hB.cell (p := ⟨bx, _, none⟩) kl).trans k7, (hB.cell (p := ⟨bx, _, none⟩) kl).trans k8⟩
    go_region_held3 (fun w' => w'.cell? ⟨bc, oc + m * 9, none⟩ = some (.int .i64 d.th) ∧ w'.cell? ⟨bc, oc + m * 9 + 1, none⟩ = some (.int .i64 d.op) ∧ w'.cell? ⟨bc, oc + m * 9 + 2, none⟩ = some (.int .i64 d.arg) ∧ w'.cell? ⟨bc, oc + m * 9 + 3, none⟩ = some (.int .i64 d.data) ∧ w'.cell? ⟨bc, oc + m * 9 + 4, none⟩ = some (.int .i64 d.beg) ∧ w'.cell? ⟨bc, oc + m * 9 + 5, none⟩ = some (.int .i64 d.fin) ∧ w'.cell? ⟨bc, oc + m * 9 + 6, none⟩ = some (.int .i64 d.pt) ∧ w'.cell? ⟨bc, oc + m * 9 + 7, none⟩ = some (.int .i64 d.ak) ∧ w'.cell? ⟨bc, oc + m * 9 + 8, none⟩ = some (.int .i64 d.av) ∧ w'.cell? ⟨bx, 0, none⟩ = some (.int .i64 c.th) ∧ w'.cell? ⟨bx, 1, none⟩ = some (.int .i64 c.op) ∧ w'.cell? ⟨bx, 2, none⟩ = some (.int .i64 c.arg) ∧ w'.cell? ⟨bx, 3, none⟩ = some (.int .i64 c.data) ∧ w'.cell? ⟨bx, 4, none⟩ = some (.int .i64 c.beg) ∧ w'.cell? ⟨bx, 5, none⟩ = some (.int .i64 c.fin) ∧ w'.cell? ⟨bx, 6, none⟩ = some (.int .i64 c.pt) ∧ w'.cell? ⟨bx, 7, none⟩ = some (.int .i64 c.ak) ∧ w'.cell? ⟨bx, 8, none⟩ = some (.int .i64 c.av)) (first | exact KK.out _ (by assumption) | go_keep) (first | (go_at_call 29; refine (AA.out _).mono ?_; rintro e w6 ⟨rfl, hB6⟩; replace hB6 : Below w5.heap.size w5 w6 := ⟨hB6.os, hB6.tape, hB6.output, hB6.size, hB6.block⟩))
    all_goals
     have hT6 := hT.out.below hB6
     clear hT KK AA d0 d1 d2 d3 d4 d5 d6 d7 d8 k0 k1 k2 k3 k4 k5 k6 k7 k8
     have hbx6 := (hB6.block _ kl).trans hB
     obtain ⟨k0, k1, k2, k3, k4, k5, k6, k7, k8, kl6⟩ := cq_cells (c := c) hbx6
     obtain ⟨z1, z2, z3⟩ := GT.out _ hT6
     replace hT6 := Mr.hid hT6
     cases q with
     | false =>
      have hbf := hno.out rfl
      subst hbf
      go_wp2
      go_ret
      exact ⟨rfl, hT6.out.bel⟩
     | true =>
      have hok2 := Mr.hid (hok.out rfl)
      go_wp2
      go_roundg (gk - 1)
      case measure => omega
      case rel => exact ⟨i + 1, by simp, by omega, hok2.out, NX.out _ hT6.out⟩
  ·have hbt : b = true := hb.out.2 (by rw [show n = i from by omega]; exact hR)
   subst hbt
   have dl : decide ((i : Int) < (n : Int)) = false := decide_eq_false (by omega)
   replace hT := Mr.hid hT
   clear hR
   go_wp2
   go_ret
   exact ⟨rfl, hT.out.bel⟩
end Go.Proofs.YtnbibkohgppjnaaGreat.Wt
