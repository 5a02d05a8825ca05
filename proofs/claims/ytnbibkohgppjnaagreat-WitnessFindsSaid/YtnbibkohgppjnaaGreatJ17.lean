import Derived.Test.YtnbibkohgppjnaaGreatJ16
import Derived.Test.YtnbibkohgppjnaaGreatJ13
import Derived.Test.YtnbibkohgppjnaaGreatJ09
set_option linter.unusedVariables false
set_option linter.unusedSimpArgs false
namespace Go.Proofs.YtnbibkohgppjnaaGreat.Md
open Go.RowKit Mr
def bads (cs : List Cq) : Bool := cs.any (fun c => obj c.op == 0)
theorem bads_yes {cs : List Cq} {i : Nat} {c : Cq} (h : cs[i]? = some c) (ho : obj c.op = 0) : bads cs = true := by
 unfold bads
 rw [List.any_eq_true]
 exact ⟨c, List.mem_of_getElem? h, by simp [ho]⟩
theorem bads_no {cs : List Cq} (h : ∀ (j : Nat) (c : Cq), cs[j]? = some c → obj c.op ≠ 0) : bads cs = false := by
 unfold bads
 rw [List.any_eq_false]
 intro c hc
 obtain ⟨j, hj, e⟩ := List.getElem_of_mem hc
 have := h j c (by rw [List.getElem?_eq_getElem hj, e])
 simpa using this
set_option maxRecDepth 100000 in
set_option maxHeartbeats 8000000 in
theorem refused_any {W : World} {S : Nat → Prop} {u0 u1 u2 u3 u4 : Value} {x : Ct} (hu : CtAt W S u0 u1 u2 u3 u4 x) (hsx : CtSm x) {T : Nat → Prop} {uc : Value} {cs : List Cq} (hc : Sl W T 9 uc cs.length (cqs cs)) (hsm : cs.length * 72 ≤ 281474976710656) (b : Bool) (hb : b = true ↔ May x) (r : Int) (hr : r = if b then (if bads cs then 110 else 0) else 111) :
  Calls Tryz.prog 74 #[.agg #[u0, u1, u2, u3, u4], uc] W fun e w' => e = .returned (.int .i64 r) ∧ Below W.heap.size W w' := by
 obtain ⟨a0, c0, rfl, _⟩ := hu.cell.form
 obtain ⟨a1, c1, rfl, _⟩ := hu.stack.form
 obtain ⟨a2, c2, rfl, _⟩ := hu.queue.form
 obtain ⟨a3, c3, rfl, _⟩ := hu.set.form
 obtain ⟨a4, c4, rfl, _⟩ := hu.table.form
 obtain ⟨ac, cc, rfl, hcc⟩ := hc.form
 have CM := fun w' (hB : Below W.heap.size W w') => mMay_any (hu.below hB) hsx b hb
 have hB0 := Below.refl (W.heap.size + 1) (W.alloc (ctO (.slice a0 x.cell.length c0) (.slice a1 x.stack.length c1) (.slice a2 x.queue.length c2) (.slice a3 x.set.length c3) (.slice a4 x.table.length c4)))
 have TW := fun w' (hB : Below (W.heap.size + 1) (W.alloc (ctO (.slice a0 x.cell.length c0) (.slice a1 x.stack.length c1) (.slice a2 x.queue.length c2) (.slice a3 x.set.length c3) (.slice a4 x.table.length c4))) w') => (((Below.refl W.heap.size W).alloc (Nat.le_refl _) _).trans (hB.mono (by omega)) : Below W.heap.size W w')
 obtain ⟨y0, y1, y2, y3, y4, y5⟩ := ctO_cells (new_at W (ctO (.slice a0 x.cell.length c0) (.slice a1 x.stack.length c1) (.slice a2 x.queue.length c2) (.slice a3 x.set.length c3) (.slice a4 x.table.length c4)) _ rfl)
 unfold ctO at hB0 TW y0 y1 y2 y3 y4 y5
 obtain ⟨n, hn⟩ : ∃ n, n = cs.length := ⟨_, rfl⟩
 rw [← hn] at hc hsm hcc ⊢
 replace hn := Mr.hid hn
 replace hc := Mr.hid hc
 replace CM := Mr.hid CM
 replace TW := Mr.hid TW
 replace hB0 := Mr.hid hB0
 clear hu hsx hb
 cases b with
 | false =>
  simp only [Bool.false_eq_true, if_false] at hr
  subst hr
  go_enter Tryz.func74, Tryz.ntmps74
  go_wp2_with (first | (go_at_call 88; refine (CM.out _ (TW.out _ hB0.out)).mono ?_; rintro e w1 ⟨rfl, hB1⟩; replace hB1 := Mr.hid (hB0.out.trans (hB1.mono (by simp)))))
  go_ret
  exact ⟨rfl, TW.out _ hB1.out⟩
 | true =>
  simp only [if_true] at hr
  replace hr := Mr.hid hr
  go_enter Tryz.func74, Tryz.ntmps74
  go_wp2_with (first | (go_at_call 88; refine (CM.out _ (TW.out _ hB0.out)).mono ?_; rintro e w1 ⟨rfl, hB1⟩; replace hB1 := Mr.hid (hB0.out.trans (hB1.mono (by simp))); clear y0 y1 y2 y3 y4 y5))
  have HB1 := Mr.hid (TW.out _ hB1.out)
  clear hB1 hB0 TW CM
  go_loopg [12] n (fun k s wr => ∃ i : Nat, s = .int .i64 (i : Int) ∧ i + k = n ∧ Below W.heap.size W wr ∧ ∀ (j : Nat) (c : Cq), j < i → cs[j]? = some c → obj c.op ≠ 0)
  case atStart => exact ⟨0, rfl, by omega, HB1.out, fun j c hj => by omega⟩
  case round =>
   clear HB1
   obtain ⟨i, rfl, hi, B, hok⟩ := hrel
   by_cases hlt : i < n
   ·obtain ⟨c, hci⟩ : ∃ c, cs[i]? = some c := ⟨cs[i]'(by have := hn.out; omega), List.getElem?_eq_getElem _⟩
    obtain ⟨bc, oc, cc', hcv, _, _, hcl, hcr⟩ := (hc.out.below B).there (by omega)
    cases hcv
    have hg := fun j (hj : j < 9) => cqs_get cs i c hci j hj
    have g0 : wr.cell? ⟨bc, oc + i * 9, none⟩ = some (.int .i64 c.th) := hcr (i * 9 + 0) _ (hg 0 (by omega))
    have g1 : wr.cell? ⟨bc, oc + i * 9 + 1, none⟩ = some (.int .i64 c.op) := hcr (i * 9 + 1) _ (hg 1 (by omega))
    have g2 : wr.cell? ⟨bc, oc + i * 9 + 2, none⟩ = some (.int .i64 c.arg) := hcr (i * 9 + 2) _ (hg 2 (by omega))
    have g3 : wr.cell? ⟨bc, oc + i * 9 + 3, none⟩ = some (.int .i64 c.data) := hcr (i * 9 + 3) _ (hg 3 (by omega))
    have g4 : wr.cell? ⟨bc, oc + i * 9 + 4, none⟩ = some (.int .i64 c.beg) := hcr (i * 9 + 4) _ (hg 4 (by omega))
    have g5 : wr.cell? ⟨bc, oc + i * 9 + 5, none⟩ = some (.int .i64 c.fin) := hcr (i * 9 + 5) _ (hg 5 (by omega))
    have g6 : wr.cell? ⟨bc, oc + i * 9 + 6, none⟩ = some (.int .i64 c.pt) := hcr (i * 9 + 6) _ (hg 6 (by omega))
    have g7 : wr.cell? ⟨bc, oc + i * 9 + 7, none⟩ = some (.int .i64 c.ak) := hcr (i * 9 + 7) _ (hg 7 (by omega))
    have g8 : wr.cell? ⟨bc, oc + i * 9 + 8, none⟩ = some (.int .i64 c.av) := hcr (i * 9 + 8) _ (hg 8 (by omega))
    have hlI : (i : Int) < (n : Int) := by omega
    have BA := Mr.hid (B.alloc B.size (.cells #[.int .i64 c.th, .int .i64 c.op, .int .i64 c.arg, .int .i64 c.data, .int .i64 c.beg, .int .i64 c.fin, .int .i64 c.pt, .int .i64 c.ak, .int .i64 c.av] 45 (0, 0)))
    clear hg hcr
    by_cases ho : obj c.op = 0
    ·have hbd := bads_yes hci ho
     have hr2 := hr.out
     rw [hbd] at hr2
     simp only [if_true] at hr2
     subst hr2
     have CO := fun w => mObj c.op w
     rw [ho] at CO
     replace CO := Mr.hid CO
     replace ho := Mr.hid ho
     clear hr hok hbd B
     go_wp2_with (go_at_call 43; refine (CO.out _).mono ?_; rintro e w2 ⟨rfl, rfl⟩)
     go_ret
     exact ⟨rfl, BA.out⟩
    ·have CO := fun w => mObj c.op w
     have ho1 : (obj c.op == 0) = false := by simpa using ho
     have hok2 : ∀ (j : Nat) (d : Cq), j < i + 1 → cs[j]? = some d → obj d.op ≠ 0 := fun j d hj hd => by
      by_cases e : j = i
      ·subst e; rw [hci] at hd; cases hd; exact ho
      ·exact hok j d (by omega) hd
     generalize obj c.op = oo at *
     replace CO := Mr.hid CO
     replace ho := Mr.hid ho
     replace hok2 := Mr.hid hok2
     clear hok B
     go_wp2_with (go_at_call 43; refine (CO.out _).mono ?_; rintro e w2 ⟨rfl, rfl⟩)
     go_roundg (gk - 1)
     case measure => omega
     case rel => exact ⟨i + 1, by simp, by omega, BA.out, hok2.out⟩
   ·have hbd := bads_no (cs := cs) (fun j c hc => hok j c (by have := (List.getElem?_eq_some_iff.1 hc).1; have := hn.out; omega) hc)
    have hr2 := hr.out
    rw [hbd] at hr2
    simp only [Bool.false_eq_true, if_false] at hr2
    subst hr2
    replace B := Mr.hid B
    clear hr hok hbd
    go_wp2
    go_ret
    exact ⟨rfl, B.out⟩
end Go.Proofs.YtnbibkohgppjnaaGreat.Md
