import Derived.Test.YtnbibkohgppjnaaGreatJ37
import Derived.Test.YtnbibkohgppjnaaGreatJ11
set_option linter.unusedVariables false
set_option linter.unusedSimpArgs false
set_option maxRecDepth 100000
namespace Go.Proofs.YtnbibkohgppjnaaGreat.Ws
open Go.RowKit Mr Md Wt
attribute [local go_sem] Oper.semAt_some
theorem ws_call : (Tryz.prog.info? 45).map (fun i => (i.zero, i.size, i.bytes)) = some (some (.agg #[.int .i64 0, .int .i64 0, .int .i64 0, .int .i64 0, .int .i64 0, .int .i64 0, .int .i64 0, .int .i64 0, .int .i64 0]), 9, 72) := by kernel_rfl
def pr (cs : List Cq) (i : Nat) : List (Nat × Cq) := cnt1 (cs.take i) 0
theorem pr_step {cs : List Cq} {i : Nat} {c : Cq} (h : cs[i]? = some c) : pr cs (i + 1) = pr cs i ++ (if obj c.op ≠ 0 then [(i, c)] else []) := by
 have hi := (List.getElem?_eq_some_iff.1 h).1
 unfold pr
 rw [List.take_add_one, h, cnt1_app]
 simp only [Option.toList, List.length_take, Nat.min_eq_left (Nat.le_of_lt hi), Nat.zero_add]
 unfold cnt1
 split <;> simp_all [cnt1]
theorem pr_all (cs : List Cq) : pr cs cs.length = cnt1 cs 0 := by simp [pr]
theorem pr_le (cs : List Cq) (i : Nat) : (pr cs i).length ≤ (cnt1 cs 0).length := by
 have := cnt1_app (cs.take i) (cs.drop i) 0
 rw [List.take_append_drop] at this
 rw [this, List.length_append]
 exact Nat.le_add_right _ _
def sci (cs : List Cq) (i : Nat) : List Cq := (pr cs i).map (·.2)
def nmi (cs : List Cq) (i : Nat) : List Int := (pr cs i).map (fun p => (p.1 : Int))
theorem sci_yes {cs : List Cq} {i : Nat} {c : Cq} (h : cs[i]? = some c) (ho : obj c.op ≠ 0) : sci cs (i + 1) = sci cs i ++ [c] ∧ nmi cs (i + 1) = nmi cs i ++ [(i : Int)] := by
 unfold sci nmi
 rw [pr_step h, if_pos ho]
 simp
theorem sci_no {cs : List Cq} {i : Nat} {c : Cq} (h : cs[i]? = some c) (ho : obj c.op = 0) : sci cs (i + 1) = sci cs i ∧ nmi cs (i + 1) = nmi cs i := by
 unfold sci nmi
 rw [pr_step h, if_neg (by simp [ho])]
 simp
theorem sci_all (cs : List Cq) : sci cs cs.length = scs cs := by rw [sci, pr_all, scs]
theorem nmi_all (cs : List Cq) : nmi cs cs.length = (nms cs).map (fun n : Nat => (n : Int)) := by rw [nmi, pr_all, nms, List.map_map]; rfl
theorem sci_len (cs : List Cq) (i : Nat) : (nmi cs i).length = (sci cs i).length := by simp [nmi, sci]
theorem sci_le (cs : List Cq) (i : Nat) : (sci cs i).length ≤ (scs cs).length := by
 have := pr_le cs i
 simp only [sci, scs, List.length_map]
 exact this
structure Nw (W : World) (bs bm : Nat) (vc vn : Value) (sc : List Cq) (nm : List Int) (ah : Nat → Nat) (en : Nat) (w : World) : Prop where
 be : Below W.heap.size W w
 sb : w.heap[bs]? = some (sbO vc vn ah en (.map (some bm)))
 mp : ∃ ck, w.heap[bm]? = some (.map #[] ck)
 cl : Has w (fun k => W.heap.size ≤ k ∧ k ≠ bs ∧ k ≠ bm) 45 9 vc sc.length (cqs sc)
 nu : Has w (fun k => W.heap.size ≤ k ∧ k ≠ bs ∧ k ≠ bm) 3 1 vn nm.length (ints nm)
 lb : W.heap.size ≤ bs ∧ W.heap.size ≤ bm ∧ bs ≠ bm
section
variable {W w w' : World} {bs bm : Nat} {vc vn : Value} {sc : List Cq} {nm : List Int} {ah : Nat → Nat} {en : Nat}
theorem Nw.below (h : Nw W bs bm vc vn sc nm ah en w) (hB : Below w.heap.size w w') : Nw W bs bm vc vn sc nm ah en w' := by
 obtain ⟨ck, hm⟩ := h.mp
 exact ⟨h.be.trans (hB.mono h.be.size), (hB.block _ (Array.getElem?_eq_some_iff.1 h.sb).1).trans h.sb, ⟨ck, (hB.block _ (Array.getElem?_eq_some_iff.1 hm).1).trans hm⟩, h.cl.below hB, h.nu.below hB, h.lb⟩
theorem Nw.lt (h : Nw W bs bm vc vn sc nm ah en w) : bs < w.heap.size ∧ bm < w.heap.size := by
 obtain ⟨ck, hm⟩ := h.mp
 exact ⟨(Array.getElem?_eq_some_iff.1 h.sb).1, (Array.getElem?_eq_some_iff.1 hm).1⟩
theorem own_ne {S : Nat → Prop} {e : TypeId} {size n : Nat} {v : Value} {xs : List Value} (h : Has w S e size v n xs) {b : Nat} (hb : ¬ S b) : v.ownBlock ≠ some b := fun e => hb (h.lt b e).1
theorem own_two {S S' : Nat → Prop} {e e' : TypeId} {size size' n n' : Nat} {v v' : Value} {xs xs' : List Value} (h : Has w S e size v n xs) (h' : Has w S' e' size' v' n' xs') {k : Nat} (hk : v'.ownBlock = some k) (hne : e ≠ e' := by decide) : ¬ v.ownBlock = some k := fun q => by
 rcases h.2 with ⟨rfl, _⟩ | ⟨g, cap, cur, rfl, _, hg, _⟩
 ·simp [Value.ownBlock] at q
 ·rcases h'.2 with ⟨rfl, _⟩ | ⟨g', cap', cur', rfl, _, hg', _⟩
  ·simp [Value.ownBlock] at hk
  ·simp [Value.ownBlock] at q hk
   subst q; subst hk
   rw [hg] at hg'
   cases hg'
   exact hne rfl
theorem Nw.set (h : Nw W bs bm vc vn sc nm ah en w) {i : Nat} {u : Value} {vc' vn' : Value} {ah' : Nat → Nat} {en' : Nat} {sc' : List Cq} {nm' : List Int} (hs : (w.setCell ⟨bs, i, none⟩ u).heap[bs]? = some (sbO vc' vn' ah' en' (.map (some bm))))
  (hc : Has w (fun k => W.heap.size ≤ k ∧ k ≠ bs ∧ k ≠ bm) 45 9 vc' sc'.length (cqs sc')) (hn : Has w (fun k => W.heap.size ≤ k ∧ k ≠ bs ∧ k ≠ bm) 3 1 vn' nm'.length (ints nm')) : Nw W bs bm vc' vn' sc' nm' ah' en' (w.setCell ⟨bs, i, none⟩ u) := by
 obtain ⟨ck, hm⟩ := h.mp
 refine ⟨h.be.setCell (p := ⟨bs, i, none⟩) h.lb.1 u, hs, ⟨ck, ?_⟩, hc.setCell _ _ (own_ne hc (fun e => e.2.1 rfl)), hn.setCell _ _ (own_ne hn (fun e => e.2.1 rfl)), h.lb⟩
 rw [heap_setCell_other _ _ _ _ (show bm ≠ bs from fun e => h.lb.2.2 e.symm)]
 exact hm
theorem sb_set {mv : Value} (h : w.heap[bs]? = some (sbO vc vn ah en mv)) (i : Nat) (u : Value) : (w.setCell ⟨bs, i, none⟩ u).heap[bs]? = some (.cells ((#[vc, vn, gv (ah 0), gv (ah 1), gv (ah 2), gv (ah 3), gv (ah 4), gv (ah 5), gv (ah 6), gv (ah 7), gv en, mv] : Array Value).setIfInBounds i u) 68 (0, 0)) :=
 heap_setCell_same w bs i _ _ u h
theorem Nw.set0 (h : Nw W bs bm vc vn sc nm ah en w) {u : Value} {sc' : List Cq} (hc : Has w (fun k => W.heap.size ≤ k ∧ k ≠ bs ∧ k ≠ bm) 45 9 u sc'.length (cqs sc')) : Nw W bs bm u vn sc' nm ah en (w.setCell ⟨bs, 0, none⟩ u) :=
 h.set (sb_set h.sb 0 u) hc h.nu
theorem Nw.setE (h : Nw W bs bm vc vn sc nm ah en w) (m : Nat) : Nw W bs bm vc vn sc nm ah m (w.setCell ⟨bs, 10, none⟩ (gv m)) :=
 h.set (sb_set h.sb 10 (gv m)) h.cl h.nu
theorem Nw.setA (h : Nw W bs bm vc vn sc nm ah en w) {i : Nat} (hi : i < 8) (m : Nat) : Nw W bs bm vc vn sc nm (fun j => if j = i then m else ah j) en (w.setCell ⟨bs, 2 + i, none⟩ (gv m)) := by
 refine h.set ?_ h.cl h.nu
 rw [sb_set h.sb (2 + i) (gv m)]
 match i, hi with
 | 0, _ => rfl
 | 1, _ => rfl
 | 2, _ => rfl
 | 3, _ => rfl
 | 4, _ => rfl
 | 5, _ => rfl
 | 6, _ => rfl
 | 7, _ => rfl
theorem Nw.fr (h : Nw W bs bm vc vn sc nm ah en w) (hg : w.grownBy w' vc.ownBlock) (hk : ∀ k, vc.ownBlock = some k → Kp w w' k (sc.length * 9)) : Nw W bs bm vc vn sc nm ah en w' := by
 obtain ⟨ck, hm⟩ := h.mp
 have hf : Fr w w' (fun j => vc.ownBlock = some j) := (Fr.refl _ _).grown hg (fun j hj => .inl hj)
 have hw : Fr W w' (fun k => W.heap.size ≤ k) := ((⟨h.be.os, h.be.tape, h.be.output, h.be.size, fun k hk hn => h.be.block k hk⟩ : Fr W w (fun k => W.heap.size ≤ k))).grown hg (fun j hj => .inr (h.cl.lt j hj).1.1)
 refine ⟨hw.below (fun _ e => e) (Nat.le_refl _), (hf.block _ h.lt.1 (own_ne h.cl (fun e => e.2.1 rfl))).trans h.sb, ⟨ck, (hf.block _ h.lt.2 (own_ne h.cl (fun e => e.2.2 rfl))).trans hm⟩, has_kp h.cl hk, ?_, h.lb⟩
 exact h.nu.kept (fun k hk => hf.block k (h.nu.lt k hk).2 (own_two h.cl h.nu hk)) (fun k hk => (h.nu.lt k hk).1)
end
theorem sb_fro {W : World} {b : Nat} {vc vn mv : Value} {ah : Nat → Nat} {en : Nat} (h : W.heap[b]? = some (sbO vc vn ah en mv)) (j : Nat) : W.frozen? ⟨b, j, none⟩ = false := by simp [World.frozen?, h, sbO]
theorem Nw.app1 {W w w' : World} {bs bm : Nat} {vc vn u : Value} {sc : List Cq} {nm nm' : List Int} {ah : Nat → Nat} {en : Nat} (h : Nw W bs bm vc vn sc nm ah en w) (hg : w.grownBy w' vn.ownBlock) (hh : Has w' (fun k => W.heap.size ≤ k ∧ k ≠ bs ∧ k ≠ bm) 3 1 u nm'.length (ints nm')) :
  w'.heap[bs]? = some (sbO vc vn ah en (.map (some bm))) ∧ Nw W bs bm vc u sc nm' ah en (w'.setCell ⟨bs, 1, none⟩ u) := by
 obtain ⟨ck, hm⟩ := h.mp
 have hf : Fr w w' (fun j => vn.ownBlock = some j) := (Fr.refl _ _).grown hg (fun j hj => .inl hj)
 have hw : Fr W w' (fun k => W.heap.size ≤ k) := ((⟨h.be.os, h.be.tape, h.be.output, h.be.size, fun k hk hn => h.be.block k hk⟩ : Fr W w (fun k => W.heap.size ≤ k))).grown hg (fun j hj => .inr (h.nu.lt j hj).1.1)
 have hsb := (hf.block _ h.lt.1 (own_ne h.nu (fun e => e.2.1 rfl))).trans h.sb
 have hmp := (hf.block _ h.lt.2 (own_ne h.nu (fun e => e.2.2 rfl))).trans hm
 have hcl := h.cl.kept (fun k hk => hf.block k (h.cl.lt k hk).2 (own_two h.nu h.cl hk)) (fun k hk => (h.cl.lt k hk).1)
 refine ⟨hsb, (hw.below (fun _ e => e) (Nat.le_refl _)).setCell (p := ⟨bs, 1, none⟩) h.lb.1 u, sb_set hsb 1 u, ⟨ck, ?_⟩, hcl.setCell _ _ (own_ne hcl (fun e => e.2.1 rfl)), hh.setCell _ _ (own_ne hh (fun e => e.2.1 rfl)), h.lb⟩
 rw [heap_setCell_other _ _ _ _ (show bm ≠ bs from fun e => h.lb.2.2 e.symm)]
 exact hmp
theorem newsCq (w : World) (c : Cq) : ∀ (j : Nat) (u : Value), c.row[j]? = some u → (w.alloc (cqO c)).cell? ((⟨w.heap.size, 0, none⟩ : Addr).add j) = some u := by
 intro j u hj
 rw [Addr.add_mid, Nat.zero_add]
 unfold World.cell?
 rw [heap_alloc_new]
 show (c.row.toArray)[j]? = some u
 simpa using hj
theorem row_one (c : Cq) : ∀ u ∈ c.row, u.oneCell' = true := by
 intro u hu
 simp [Cq.row] at hu
 rcases hu with rfl | rfl | rfl | rfl | rfl | rfl | rfl | rfl | rfl <;> rfl
theorem cqs_snoc (l : List Cq) (c : Cq) : cqs (l ++ [c]) = cqs l ++ c.row := by simp [cqs]
def Npost (W : World) (cs : List Cq) (e : Ending) (w' : World) : Prop :=
 Below W.heap.size W w' ∧ ((mayB cs = false ∧ e = .returned (.tuple #[.pointer none, .int .i64 120])) ∨ (mayB cs = true ∧ 8 < (scs cs).length ∧ e = .returned (.tuple #[.pointer none, .int .i64 3])) ∨
  (mayB cs = true ∧ (scs cs).length ≤ 8 ∧ ∃ bs bm vc vn, e = .returned (.tuple #[.pointer (some ⟨bs, 0, none⟩), .int .i64 0]) ∧ Nw W bs bm vc vn (scs cs) ((nms cs).map (fun n : Nat => (n : Int))) (ahM (scs cs)) (enM (scs cs)) w'))
theorem fit_not_ahead {c : Cq} (h : Fit c) : ahB c cq0 = false := by
 obtain ⟨_, _, ⟨h1, h2, _⟩, _⟩ := h
 unfold ahB
 rcases h2 with h2 | h2
 ·simp [h2]
 ·have : ¬ c.fin < cq0.beg := by show ¬ c.fin < 0; omega
  simp [this]
theorem may_fit {cs : List Cq} (h : mayB cs = true) {i : Nat} {c : Cq} (hc : cs[i]? = some c) : Fit c := by
 have hm : MayC cs := by simpa [mayB] using h
 exact hm.1.fit (List.getElem?_eq_some_iff.1 hc).1 hc
theorem ahM_out {sc : List Cq} (h : ∀ c ∈ sc, Fit c) {j : Nat} (hj : sc.length ≤ j) : ahM sc j = 0 := by
 have hc : cd sc j = cq0 := by simp [cd, List.getElem?_eq_none hj]
 have : ∀ n, n ≤ sc.length → mks (fun k => ahB (cd sc k) (cd sc j)) n 0 = 0 := by
  intro n
  induction n with
  | zero => intro _; rfl
  | succ n ih =>
   intro hn
   have hk : sc[n]? = some sc[n] := List.getElem?_eq_getElem (by omega)
   have hcd : cd sc n = sc[n] := by simp [cd, hk]
   have hf := h sc[n] (List.getElem_mem _)
   have ha : ahB (cd sc n) (cd sc j) = false := by
    rw [hc, hcd]
    exact fit_not_ahead hf
   rw [mks, ha, if_neg (by simp)]
   exact ih (by omega)
 exact this sc.length (Nat.le_refl _)
theorem scs_fit {cs : List Cq} (h : mayB cs = true) : ∀ c ∈ scs cs, Fit c := by
 intro c hc
 unfold scs at hc
 obtain ⟨⟨k, d⟩, hd, rfl⟩ := List.mem_map.1 hc
 obtain ⟨i, h1, _, _⟩ := (mem_cnt1 cs 0 _).1 hd
 exact may_fit h h1
set_option maxHeartbeats 16000000 in
theorem new_any {W : World} {T : Nat → Prop} {v : Value} {cs : List Cq} (hv : Sl W T 9 v cs.length (cqs cs)) (hsm : cs.length * 72 ≤ 281474976710656) :
  Calls Tryz.prog 15 #[v] W fun e w' => Npost W cs e w' := by
 have CM := Mr.hid (may_any hv hsm)
 obtain ⟨a, cap, rfl, hcap⟩ := hv.form
 obtain ⟨n, hn⟩ : ∃ n, n = cs.length := ⟨_, rfl⟩
 rw [← hn] at hsm hcap CM ⊢
 replace hv := Mr.hid hv
 replace hn := Mr.hid hn
 cases hmb : mayB cs with
 | false =>
  rw [hmb] at CM
  go_enter Tryz.func15, Tryz.ntmps15
  go_wp2_with (go_at_call 22; refine CM.out.mono ?_; rintro e w1 ⟨rfl, hB1⟩)
  refine bodyPost_ret (v := .tuple #[.pointer none, .int .i64 120]) (by simp [results, Tryz.results15, go_sem]) rfl ?_
  exact ⟨hB1, .inl ⟨hmb, rfl⟩⟩
 | true =>
  rw [hmb] at CM
  have hmm := @run_makeMap Tryz.prog
  go_enter Tryz.func15, Tryz.ntmps15
  go_wp2_with (go_at_call 22; refine CM.out.mono ?_; rintro e w1 ⟨rfl, hB1⟩)
  have N0 : Hid (Nw W (w1.heap.size + 1) w1.heap.size (.slice none 0 0) (.slice none 0 0) (sci cs 0) (nmi cs 0) (fun _ => 0) 0 ((w1.alloc (.map #[] 0)).alloc (sbO (.slice none 0 0) (.slice none 0 0) (fun _ => 0) 0 (.map (some w1.heap.size))))) := Mr.hid (by
   refine ⟨(hB1.alloc hB1.size _).alloc (by have := hB1.size; simp; omega) _, ?_, ⟨0, ?_⟩, Has.nil _ _ _ _, Has.nil _ _ _ _, ⟨by have := hB1.size; omega, hB1.size, by omega⟩⟩
   ·have := heap_alloc_new (w1.alloc (.map #[] 0)) (sbO (.slice none 0 0) (.slice none 0 0) (fun _ => 0) 0 (.map (some w1.heap.size)))
    rw [World.size_alloc] at this
    exact this
   ·rw [heap_alloc_old _ _ (by simp), heap_alloc_new])
  unfold sbO gv at N0
  generalize hW2 : (w1.alloc (.map #[] 0)).alloc _ = w2 at *
  clear hW2 CM hB1
  generalize w1.heap.size = bm at *
  generalize hbs : bm + 1 = bs at *
  clear hbs
  go_loopg [19] n (fun gk s19 wr => ∃ (i : Nat) (vc vn : Value), s19 = .int .i64 (i : Int) ∧ i + gk = n ∧ Nw W bs bm vc vn (sci cs i) (nmi cs i) (fun _ => 0) 0 wr ∧ (sci cs i).length ≤ 8)
  case atStart => exact ⟨0, _, _, rfl, by omega, N0.out, by simp [sci, pr, cnt1]⟩
  case round =>
   obtain ⟨i, vc, vn, rfl, hi, hN, hl8⟩ := hrel
   by_cases hlt : i < n
   ·obtain ⟨c, hci⟩ := get_of_lt (cs := cs) (i := i) (by have := hn.out; omega)
    have hva := call_at (hv.out.below hN.be) hci
    obtain ⟨bc, oc, rfl, A9⟩ := hva
    have N5 := Mr.hid (hN.below ((Below.refl _ _).alloc (Nat.le_refl _) (cqO c)))
    have hbx := new_at wr (cqO c) _ rfl
    obtain ⟨hbl, g0, g1, g2, g3, g4, g5, g6, g7, g8⟩ := A9
    have hlI : (i : Int) < (n : Int) := by omega
    replace hci := Mr.hid hci
    clear hN
    go_upto_region 7 with (fail)
    unfold cqO at hbx N5
    clear g0 g1 g2 g3 g4 g5 g6 g7 g8 hbl
    generalize (wr.alloc (Obj.cells #[.int .i64 c.th, .int .i64 c.op, .int .i64 c.arg, .int .i64 c.data, .int .i64 c.beg, .int .i64 c.fin, .int .i64 c.pt, .int .i64 c.ak, .int .i64 c.av] 45 (0, 0))) = w5 at *
    generalize wr.heap.size = bx at *
    clear wr
    obtain ⟨k0, k1, k2, k3, k4, k5, k6, k7, k8, kl⟩ := cq_cells (c := c) hbx
    have CC := fun w => counts_any c w
    unfold Cq.val at CC
    have hw : IntKind.i64.wrap ((i : Int) + 1) = (i : Int) + 1 := i64x _ (by omega) (by omega)
    by_cases hob : obj c.op = 0
    ·have e0 : (obj c.op != 0) = false := by simp [hob]
     rw [e0] at CC
     replace CC := Mr.hid CC
     have hnx := Mr.hid (sci_no hci.out hob)
     clear k0 k1 k2 k3 k4 k5 k6 k7 k8 e0
     obtain ⟨k0, k1, k2, k3, k4, k5, k6, k7, k8, kl⟩ := cq_cells (c := c) hbx
     go_wp2_with (go_at_call 23; refine (CC.out _).mono ?_; rintro e w6 ⟨rfl, hB6⟩)
     go_roundg (gk - 1)
     case measure => omega
     case rel => exact ⟨i + 1, vc, vn, by simp, by omega, by rw [hnx.out.1, hnx.out.2]; exact N5.out.below hB6, by rw [hnx.out.1]; exact hl8⟩
    ·have e0 : (obj c.op != 0) = true := by simp [hob]
     rw [e0] at CC
     replace CC := Mr.hid CC
     have hnx := Mr.hid (sci_yes hci.out hob)
     go_upto_region 8 with (go_at_call 23; refine (CC.out _).mono ?_; rintro e w6 ⟨rfl, hB6⟩)
     have N6 := Mr.hid (N5.out.below hB6)
     have hb6 := (hB6.block _ kl).trans hbx
     clear N5 hB6 hbx kl k0 k1 k2 k3 k4 k5 k6 k7 k8 CC
     obtain ⟨av, cv, hvf, hcv⟩ := N6.out.cl.form
     subst hvf
     obtain ⟨sl0, s0, s1, _, _⟩ := sb_cells N6.out.sb
     by_cases h8 : (sci cs i).length = 8
     ·have hd : decide (((sci cs i).length : Int) = 8) = true := by simp [h8]
      go_wp2
      refine bodyPost_ret (v := .tuple #[.pointer none, .int .i64 3]) (by simp [results, Tryz.results15, go_sem]) rfl ?_
      refine ⟨N6.out.be, .inr (.inl ⟨hmb, ?_, rfl⟩)⟩
      have h1 := sci_le cs (i + 1)
      rw [hnx.out.1, List.length_append, h8] at h1
      exact h1
     ·have hd : decide (((sci cs i).length : Int) = 8) = false := by simp; omega
      go_upto_region 10 with (fail)
      clear hd sl0 s0 s1
      generalize (((sci cs i).length : Int) == 8) = bq
      refine (wpIn_wide (n := 1)).1 ?_
      refine wpIn_region_any (by kernel_rfl) ?_
      refine wpAnyIn_walks (dep := fun i => if i = 2 then [1] else if i = 3 then [2] else if i = 4 then [3] else if i = 6 then [5] else if i = 7 then [4, 6] else if i = 8 then [0] else if i = 9 then [8] else if i = 10 then [7, 9] else []) (by kernel_rfl) (fun yy => { tmps := #[Value.slice (some { block := bc, off := oc }) n cap, undef, u2, u3, Value.pointer (some { block := bs, off := 0 }), Value.int IntKind.i64 ↑i, Value.pointer (some { block := bx, off := 0 }), undef, undef, undef, undef, Value.slice (some { block := bc, off := oc }) n cap, Value.bool true, Value.bool false, Value.map (some bm), Value.agg #[Value.slice none 0 0, Value.slice none 0 0, Value.int IntKind.u64 0, Value.int IntKind.u64 0, Value.int IntKind.u64 0, Value.int IntKind.u64 0, Value.int IntKind.u64 0, Value.int IntKind.u64 0, Value.int IntKind.u64 0, Value.int IntKind.u64 0, Value.int IntKind.u64 0, Value.map (some bm)], Value.pointer (some { block := bs, off := 0 }), Value.slice (some { block := bc, off := oc }) n cap, Value.int IntKind.i64 ↑n, Value.int IntKind.i64 ↑i, Value.bool true, Value.int IntKind.i64 ↑i, Value.pointer (some { block := bc, off := oc + i * 9 }), Value.agg #[Value.int IntKind.i64 c.th, Value.int IntKind.i64 c.op, Value.int IntKind.i64 c.arg, Value.int IntKind.i64 c.data, Value.int IntKind.i64 c.beg, Value.int IntKind.i64 c.fin, Value.int IntKind.i64 c.pt, Value.int IntKind.i64 c.ak, Value.int IntKind.i64 c.av], Value.agg #[Value.int IntKind.i64 c.th, Value.int IntKind.i64 c.op, Value.int IntKind.i64 c.arg, Value.int IntKind.i64 c.data, Value.int IntKind.i64 c.beg, Value.int IntKind.i64 c.fin, Value.int IntKind.i64 c.pt, Value.int IntKind.i64 c.ak, Value.int IntKind.i64 c.av], Value.bool true, Value.bool false, Value.pointer (some { block := bs, off := 0 }), Value.pointer (some { block := bs, off := 0 }), Value.pointer (some { block := bs, off := 0 }), Value.slice av (sci cs i).length cv, Value.int IntKind.i64 ↑(sci cs i).length, Value.bool bq, yy 0, yy 1, yy 2, yy 3, yy 4, yy 5, yy 6, yy 7, yy 8, yy 9, u43, u44, u45, u46, u47, u48, u49, u50, u51, u52, u53, undef, undef, undef, undef, undef, undef, undef, undef, undef, undef, undef, undef, undef, undef, undef, undef, undef, undef, undef, undef, undef, undef, undef, undef, undef, undef, undef, undef, undef, undef, undef, undef, undef, undef, undef, undef, undef, undef, undef, undef, undef, undef, undef, undef, undef, undef, undef, undef, undef, undef], defers := [] }) (fun D yy w => (D 0 = true → yy 0 = Value.pointer (some ⟨bs, 0, none⟩)) ∧ (D 1 = true → yy 1 = Value.pointer (some ⟨bs, 0, none⟩)) ∧ (D 2 = true → yy 2 = Value.pointer (some ⟨bs, 0, none⟩)) ∧ (D 3 = true → yy 3 = Value.pointer (some ⟨bs, 0, none⟩)) ∧ (D 4 = true → yy 4 = Value.slice av (sci cs i).length cv) ∧ (D 5 = true → yy 5 = Value.agg #[.int .i64 c.th, .int .i64 c.op, .int .i64 c.arg, .int .i64 c.data, .int .i64 c.beg, .int .i64 c.fin, .int .i64 c.pt, .int .i64 c.ak, .int .i64 c.av]) ∧ (D 8 = true → yy 8 = Value.pointer (some ⟨bs, 0, none⟩)) ∧ (D 9 = true → yy 9 = Value.pointer (some ⟨bs, 0, none⟩)) ∧ (D 5 = false → w.heap[bx]? = some (cqO c)) ∧ (D 6 = true → D 7 = false → ∃ b6, yy 6 = .slice (some ⟨b6, 0, none⟩) 1 1 ∧ ∀ j u, c.row[j]? = some u → w.cell? ((⟨b6, 0, none⟩ : Addr).add j) = some u) ∧ (D 7 = true → D 10 = false → ∃ g cap, yy 7 = .slice (some ⟨g, 0, none⟩) ((sci cs i).length + 1) cap ∧ Has w (fun k => W.heap.size ≤ k ∧ k ≠ bs ∧ k ≠ bm) 45 9 (.slice (some ⟨g, 0, none⟩) ((sci cs i).length + 1) cap) ((sci cs i).length + 1) (cqs (sci cs i) ++ c.row)) ∧ (D 10 = false → Nw W bs bm (.slice av (sci cs i).length cv) vn (sci cs i) (nmi cs i) (fun _ => 0) 0 w) ∧ (D 10 = true → ∃ vc', Nw W bs bm vc' vn (sci cs (i + 1)) (nmi cs i) (fun _ => 0) 0 w)) rfl (fun j => if j = 0 then u33 else if j = 1 then u34 else if j = 2 then u35 else if j = 3 then u36 else if j = 4 then u37 else if j = 5 then u38 else if j = 6 then u39 else if j = 7 then u40 else if j = 8 then u41 else if j = 9 then u42 else undef) ⟨fun h => by simp at h, fun h => by simp at h, fun h => by simp at h, fun h => by simp at h, fun h => by simp at h, fun h => by simp at h, fun h => by simp at h, fun h => by simp at h, fun _ => hb6, fun h => by simp at h, fun h => by simp at h, fun _ => N6.out.below (Below.refl _ _).drew, fun h => by simp at h⟩ ?hs ?he
      case he =>
       rintro yy w ⟨e0, e1, e2, e3, e4, e5, e8, e9, _, _, _, _, n1⟩
       obtain ⟨vc2, N8⟩ := n1 (by decide)
       clear e0 e1 e2 e3 e4 e5 e8 e9 n1 N6 hb6
       dsimp only
       obtain ⟨an, cn, hvn, hcn⟩ := N8.nu.form
       subst hvn
       have s1 := (sb_cells N8.sb).2.2.1
       have N9 : ∀ o, Nw W bs bm vc2 (.slice an (nmi cs i).length cn) (sci cs (i + 1)) (nmi cs i) (fun _ => 0) 0 (w.alloc o) := fun o => N8.below ((Below.refl _ _).alloc (Nat.le_refl _) _)
       have hlt := N8.lt
       have hbe := N8.be.size
       have hnl : (nmi cs i).length ≤ 8 := by rw [sci_len]; exact hl8
       obtain ⟨i0, hinf, hz0, hz1, hz2⟩ := info_parts mp_int
       replace N8 := Mr.hid N8
       replace N9 := Mr.hid N9
       go_wp2_with (at_builtin; refine wpList_append_has _ rfl (.tmp 47) (.tmp 49) 24 rfl (fun k => W.heap.size ≤ k ∧ k ≠ bs ∧ k ≠ bm) 3 i0 _ 1 8 Tryz.underlying24 hinf hz0 hz1 hz2 rfl (.slice an (nmi cs i).length cn) (nmi cs i).length (ints (nmi cs i)) rfl (N9.out _).nu ⟨w.heap.size, 0, none⟩ 1 1 [.int .i64 (i : Int)] rfl rfl (newsOne (cell_of (heap_alloc_new _ _))) (by simp [Value.oneCell']) (by omega) (by unfold maxLen; omega) (by omega) ⟨by rw [World.size_alloc]; omega, by rw [World.size_alloc]; omega, by rw [World.size_alloc]; omega⟩ ?_; intro g cap w9 hh hgr hor; have NB := (N9.out _).app1 (nm' := nmi cs (i + 1)) (u := .slice (some ⟨g, 0, none⟩) ((nmi cs i).length + 1) cap) hgr (by rw [hnx.out.2, List.length_append, ints_append]; exact hh); have sc1 := (sb_cells NB.1).2.2.1; have sf1 := sb_fro NB.1 1; have NF := Mr.hid NB.2; clear NB hh hgr hor N9)
       go_roundg (gk - 1)
       case measure => omega
       case rel => exact ⟨i + 1, _, _, by simp, by omega, NF.out, by rw [hnx.out.1, List.length_append]; simp; omega⟩
      case hs =>
       intro ii hi D yy w hDi hdep hcl hI K hK
       have hi' : ii < 11 := hi
       clear hi
       obtain rfl | rfl | rfl | rfl | rfl | rfl | rfl | rfl | rfl | rfl | rfl : ii = 0 ∨ ii = 1 ∨ ii = 2 ∨ ii = 3 ∨ ii = 4 ∨ ii = 5 ∨ ii = 6 ∨ ii = 7 ∨ ii = 8 ∨ ii = 9 ∨ ii = 10 := by omega
       ·obtain ⟨e0, e1, e2, e3, e4, e5, e8, e9, eb, e6, e7, n0, n1⟩ := hI
        refine wpOpIn_step rfl (fun K' hK' => ?_)
        try simp only [Act.put, LA, LB, LC, LD, LE, LF]
        rw [if_pos (by kernel_rfl)]
        refine ⟨fun _ _ => trivial, ?_⟩
        go_simp
        have hq' := hK (Value.pointer (some ⟨bs, 0, none⟩)) w ⟨(fun _ => by simp [upd]), (by simpa [upb, upd] using e1), (by simpa [upb, upd] using e2), (by simpa [upb, upd] using e3), (by simpa [upb, upd] using e4), (by simpa [upb, upd] using e5), (by simpa [upb, upd] using e8), (by simpa [upb, upd] using e9), (by simpa [upb, upd] using eb), (by simpa [upb, upd] using e6), (by simpa [upb, upd] using e7), (by simpa [upb, upd] using n0), (by simpa [upb, upd] using n1)⟩
        refine hK' _ _ ?_
        simpa [upd] using hq'
       ·obtain ⟨e0, e1, e2, e3, e4, e5, e8, e9, eb, e6, e7, n0, n1⟩ := hI
        refine wpOpIn_step rfl (fun K' hK' => ?_)
        try simp only [Act.put, LA, LB, LC, LD, LE, LF]
        rw [if_pos (by kernel_rfl)]
        refine ⟨fun _ _ => trivial, ?_⟩
        go_simp
        have hq' := hK (Value.pointer (some ⟨bs, 0, none⟩)) w ⟨(by simpa [upb, upd] using e0), (fun _ => by simp [upd]), (by simpa [upb, upd] using e2), (by simpa [upb, upd] using e3), (by simpa [upb, upd] using e4), (by simpa [upb, upd] using e5), (by simpa [upb, upd] using e8), (by simpa [upb, upd] using e9), (by simpa [upb, upd] using eb), (by simpa [upb, upd] using e6), (by simpa [upb, upd] using e7), (by simpa [upb, upd] using n0), (by simpa [upb, upd] using n1)⟩
        refine hK' _ _ ?_
        simpa [upd] using hq'
       ·obtain ⟨e0, e1, e2, e3, e4, e5, e8, e9, eb, e6, e7, n0, n1⟩ := hI
        have v1 := e1 (hdep 1 (by decide))
        refine wpOpIn_step rfl (fun K' hK' => ?_)
        try simp only [Act.put, LA, LB, LC, LD, LE, LF]
        rw [if_pos (by kernel_rfl)]
        refine ⟨fun _ _ => trivial, ?_⟩
        go_simp
        have hq' := hK (Value.pointer (some ⟨bs, 0, none⟩)) w ⟨(by simpa [upb, upd] using e0), (by simpa [upb, upd] using e1), (fun _ => by simp [upd]), (by simpa [upb, upd] using e3), (by simpa [upb, upd] using e4), (by simpa [upb, upd] using e5), (by simpa [upb, upd] using e8), (by simpa [upb, upd] using e9), (by simpa [upb, upd] using eb), (by simpa [upb, upd] using e6), (by simpa [upb, upd] using e7), (by simpa [upb, upd] using n0), (by simpa [upb, upd] using n1)⟩
        refine hK' _ _ ?_
        simpa [upd, v1] using hq'
       ·obtain ⟨e0, e1, e2, e3, e4, e5, e8, e9, eb, e6, e7, n0, n1⟩ := hI
        have v2 := e2 (hdep 2 (by decide))
        refine wpOpIn_step rfl (fun K' hK' => ?_)
        try simp only [Act.put, LA, LB, LC, LD, LE, LF]
        rw [if_pos (by kernel_rfl)]
        refine ⟨fun _ _ => trivial, ?_⟩
        go_simp
        have hq' := hK (Value.pointer (some ⟨bs, 0, none⟩)) w ⟨(by simpa [upb, upd] using e0), (by simpa [upb, upd] using e1), (by simpa [upb, upd] using e2), (fun _ => by simp [upd]), (by simpa [upb, upd] using e4), (by simpa [upb, upd] using e5), (by simpa [upb, upd] using e8), (by simpa [upb, upd] using e9), (by simpa [upb, upd] using eb), (by simpa [upb, upd] using e6), (by simpa [upb, upd] using e7), (by simpa [upb, upd] using n0), (by simpa [upb, upd] using n1)⟩
        refine hK' _ _ ?_
        simpa [upd, v2] using hq'
       ·obtain ⟨e0, e1, e2, e3, e4, e5, e8, e9, eb, e6, e7, n0, n1⟩ := hI
        have v3 := e3 (hdep 3 (by decide))
        have d10 : D 10 = false := by
         cases h : D 10 with
         | false => rfl
         | true =>
          have q0 := hcl 10 h 7 (by decide)
          have q1 := hcl 7 q0 4 (by decide)
          rw [hDi] at q1; cases q1
        have cy := (sb_cells (n0 d10).sb).2.1
        refine wpOpIn_step rfl (fun K' hK' => ?_)
        try simp only [Act.put, LA, LB, LC, LD, LE, LF]
        rw [if_pos (by kernel_rfl)]
        refine ⟨fun _ _ => trivial, ?_⟩
        go_simp
        have hq' := hK (Value.slice av (sci cs i).length cv) w ⟨(by simpa [upb, upd] using e0), (by simpa [upb, upd] using e1), (by simpa [upb, upd] using e2), (by simpa [upb, upd] using e3), (fun _ => by simp [upd]), (by simpa [upb, upd] using e5), (by simpa [upb, upd] using e8), (by simpa [upb, upd] using e9), (by simpa [upb, upd] using eb), (by simpa [upb, upd] using e6), (by simpa [upb, upd] using e7), (by simpa [upb, upd] using n0), (by simpa [upb, upd] using n1)⟩
        refine hK' _ _ ?_
        simpa [upd, v3] using hq'
       ·obtain ⟨e0, e1, e2, e3, e4, e5, e8, e9, eb, e6, e7, n0, n1⟩ := hI
        obtain ⟨k0, k1, k2, k3, k4, k5, k6, k7, k8, kl⟩ := cq_cells (c := c) (eb hDi)
        refine wpOpIn_step rfl (fun K' hK' => ?_)
        try simp only [Act.put, LA, LB, LC, LD, LE, LF]
        rw [if_pos (by kernel_rfl)]
        refine ⟨fun _ _ => trivial, ?_⟩
        go_simp
        have hq' := hK (Value.agg #[.int .i64 c.th, .int .i64 c.op, .int .i64 c.arg, .int .i64 c.data, .int .i64 c.beg, .int .i64 c.fin, .int .i64 c.pt, .int .i64 c.ak, .int .i64 c.av]) w ⟨(by simpa [upb, upd] using e0), (by simpa [upb, upd] using e1), (by simpa [upb, upd] using e2), (by simpa [upb, upd] using e3), (by simpa [upb, upd] using e4), (fun _ => by simp [upd]), (by simpa [upb, upd] using e8), (by simpa [upb, upd] using e9), (fun h => by simp [upb] at h), (by simpa [upb, upd] using e6), (by simpa [upb, upd] using e7), (by simpa [upb, upd] using n0), (by simpa [upb, upd] using n1)⟩
        refine hK' _ _ ?_
        simpa [upd] using hq'
       ·obtain ⟨e0, e1, e2, e3, e4, e5, e8, e9, eb, e6, e7, n0, n1⟩ := hI
        have v5 := e5 (hdep 5 (by decide))
        have BA : Below w.heap.size w (w.alloc (cqO c)) := (Below.refl _ _).alloc (Nat.le_refl _) _
        have d10 : D 10 = false := by
         cases h : D 10 with
         | false => rfl
         | true =>
          have q0 := hcl 10 h 7 (by decide)
          have q1 := hcl 7 q0 6 (by decide)
          rw [hDi] at q1; cases q1
        refine wpOpIn_step rfl (fun K' hK' => ?_)
        try simp only [Act.put, LA, LB, LC, LD, LE, LF]
        rw [if_pos (by kernel_rfl)]
        refine ⟨fun _ _ => trivial, ?_⟩
        go_simp
        have hq' := hK (.slice (some ⟨w.heap.size, 0, none⟩) 1 1) (w.alloc (cqO c)) ⟨(by simpa [upb, upd] using e0), (by simpa [upb, upd] using e1), (by simpa [upb, upd] using e2), (by simpa [upb, upd] using e3), (by simpa [upb, upd] using e4), (by simpa [upb, upd] using e5), (by simpa [upb, upd] using e8), (by simpa [upb, upd] using e9), (fun h => absurd (hdep 5 (by decide)) (by rw [show D 5 = false by simpa [upb] using h]; decide)), (fun _ _ => ⟨w.heap.size, by simp [upd], newsCq w c⟩), (fun h _ => absurd (hcl 7 (by simpa [upb] using h) 6 (by decide)) (by rw [hDi]; decide)), (fun _ => (n0 d10).below BA), (fun h => by simp [upb, d10] at h)⟩
        refine hK' _ _ ?_
        simpa [upd, v5, cqO] using hq'
       ·obtain ⟨e0, e1, e2, e3, e4, e5, e8, e9, eb, e6, e7, n0, n1⟩ := hI
        have v4 := e4 (hdep 4 (by decide))
        obtain ⟨b6, v6, hc6⟩ := e6 (hdep 6 (by decide)) hDi
        have d10 : D 10 = false := by
         cases h : D 10 with
         | false => rfl
         | true =>
          have q0 := hcl 10 h 7 (by decide)
          rw [hDi] at q0; cases q0
        have n := n0 d10
        have hlt := n.lt
        obtain ⟨i0, hinf, hz0, hz1, hz2⟩ := info_parts ws_call
        refine wpOpIn_step rfl (fun K' hK' => ?_)
        try simp only [Act.put, LA, LB, LC, LD, LE, LF]
        rw [if_pos (by kernel_rfl)]
        refine opIn_append_keep (P := Tryz.prog) w (.tmp 37) (.tmp 39) 22 rfl (fun k => W.heap.size ≤ k ∧ k ≠ bs ∧ k ≠ bm) 45 i0 _ 9 72 Tryz.underlying22 hinf hz0 hz1 hz2 rfl (.slice av (sci cs i).length cv) (sci cs i).length (cqs (sci cs i)) (show yy 4 = _ from v4) n.cl ⟨b6, 0, none⟩ 1 1 c.row (show yy 6 = _ from v6) rfl hc6 (row_one c) (by omega) (by unfold maxLen; omega) (by omega) ⟨n.be.size, by omega, by omega⟩ ?_
        intro g cap w' hh hgr hor hkp
        try simp only [Act.put, LA, LB, LC, LD, LE, LF]
        have hq' := hK (.slice (some ⟨g, 0, none⟩) ((sci cs i).length + 1) cap) w' ⟨(by simpa [upb, upd] using e0), (by simpa [upb, upd] using e1), (by simpa [upb, upd] using e2), (by simpa [upb, upd] using e3), (by simpa [upb, upd] using e4), (by simpa [upb, upd] using e5), (by simpa [upb, upd] using e8), (by simpa [upb, upd] using e9), (fun h => absurd (hcl 6 (hdep 6 (by decide)) 5 (by decide)) (by rw [show D 5 = false by simpa [upb] using h]; decide)), (fun _ h => by simp [upb] at h), (fun _ _ => ⟨g, cap, by simp [upd], hh⟩), (fun _ => n.fr hgr hkp), (fun h => by simp [upb, d10] at h)⟩
        refine hK' _ _ ?_
        simpa [upd, v4, v6] using hq'
       ·obtain ⟨e0, e1, e2, e3, e4, e5, e8, e9, eb, e6, e7, n0, n1⟩ := hI
        have v0 := e0 (hdep 0 (by decide))
        refine wpOpIn_step rfl (fun K' hK' => ?_)
        try simp only [Act.put, LA, LB, LC, LD, LE, LF]
        rw [if_pos (by kernel_rfl)]
        refine ⟨fun _ _ => trivial, ?_⟩
        go_simp
        have hq' := hK (Value.pointer (some ⟨bs, 0, none⟩)) w ⟨(by simpa [upb, upd] using e0), (by simpa [upb, upd] using e1), (by simpa [upb, upd] using e2), (by simpa [upb, upd] using e3), (by simpa [upb, upd] using e4), (by simpa [upb, upd] using e5), (fun _ => by simp [upd]), (by simpa [upb, upd] using e9), (by simpa [upb, upd] using eb), (by simpa [upb, upd] using e6), (by simpa [upb, upd] using e7), (by simpa [upb, upd] using n0), (by simpa [upb, upd] using n1)⟩
        refine hK' _ _ ?_
        simpa [upd, v0] using hq'
       ·obtain ⟨e0, e1, e2, e3, e4, e5, e8, e9, eb, e6, e7, n0, n1⟩ := hI
        have v8 := e8 (hdep 8 (by decide))
        refine wpOpIn_step rfl (fun K' hK' => ?_)
        try simp only [Act.put, LA, LB, LC, LD, LE, LF]
        rw [if_pos (by kernel_rfl)]
        refine ⟨fun _ _ => trivial, ?_⟩
        go_simp
        have hq' := hK (Value.pointer (some ⟨bs, 0, none⟩)) w ⟨(by simpa [upb, upd] using e0), (by simpa [upb, upd] using e1), (by simpa [upb, upd] using e2), (by simpa [upb, upd] using e3), (by simpa [upb, upd] using e4), (by simpa [upb, upd] using e5), (by simpa [upb, upd] using e8), (fun _ => by simp [upd]), (by simpa [upb, upd] using eb), (by simpa [upb, upd] using e6), (by simpa [upb, upd] using e7), (by simpa [upb, upd] using n0), (by simpa [upb, upd] using n1)⟩
        refine hK' _ _ ?_
        simpa [upd, v8] using hq'
       ·obtain ⟨e0, e1, e2, e3, e4, e5, e8, e9, eb, e6, e7, n0, n1⟩ := hI
        obtain ⟨g, cap, v7, hh⟩ := e7 (hdep 7 (by decide)) hDi
        have v9 := e9 (hdep 9 (by decide))
        have n := n0 hDi
        have cy := (sb_cells n.sb).2.1
        have cf : w.frozen? ⟨bs, 0, none⟩ = false := by simp [World.frozen?, n.sb, sbO]
        have hs := n.set0 (sc' := sci cs (i + 1)) (u := .slice (some ⟨g, 0, none⟩) ((sci cs i).length + 1) cap) (by rw [hnx.out.1, List.length_append, cqs_snoc]; exact hh)
        refine wpOpIn_step rfl (fun K' hK' => ?_)
        try simp only [Act.put, LA, LB, LC, LD, LE, LF]
        rw [if_pos (by kernel_rfl)]
        refine ⟨fun _ _ => trivial, ?_⟩
        go_simp
        have hq' := hK (undef) (w.setCell ⟨bs, 0, none⟩ (.slice (some ⟨g, 0, none⟩) ((sci cs i).length + 1) cap)) ⟨(by simpa [upb, upd] using e0), (by simpa [upb, upd] using e1), (by simpa [upb, upd] using e2), (by simpa [upb, upd] using e3), (by simpa [upb, upd] using e4), (by simpa [upb, upd] using e5), (by simpa [upb, upd] using e8), (by simpa [upb, upd] using e9), (fun h => absurd (hcl 6 (hcl 7 (hdep 7 (by decide)) 6 (by decide)) 5 (by decide)) (by rw [show D 5 = false by simpa [upb] using h]; decide)), (fun _ h => absurd (hdep 7 (by decide)) (by rw [show D 7 = false by simpa [upb] using h]; decide)), (fun _ h => by simp [upb] at h), (fun h => by simp [upb] at h), (fun _ => ⟨_, hs⟩)⟩
        refine hK' _ _ ?_
        simpa [upd, v7, v9] using hq'
   ·obtain rfl : i = n := by omega
    have hN2 : Nw W bs bm vc vn (scs cs) ((nms cs).map (fun n : Nat => (n : Int))) (fun _ => 0) 0 wr := by
     have h1 := hN
     rw [hn.out, sci_all, nmi_all] at h1
     exact h1
    have hl2 : (scs cs).length ≤ 8 := by rw [hn.out, sci_all] at hl8; exact hl8
    clear hN hl8 N0 hv
    have hfits := scs_fit hmb
    generalize hsc : scs cs = sc at *
    generalize hnm : (nms cs).map (fun n : Nat => (n : Int)) = nm at *
    replace hsc := Mr.hid hsc
    replace hnm := Mr.hid hnm
    obtain ⟨av, cv, rfl, hcv⟩ := hN2.cl.form
    have s0 := (sb_cells hN2.sb).2.1
    replace hN2 := Mr.hid hN2
    go_wp2
    go_loopg [59] sc.length (fun gk2 s59 w2 => ∃ (i2 : Nat) (ah : Nat → Nat), s59 = .int .i64 (i2 : Int) ∧ i2 + gk2 = sc.length ∧ Nw W bs bm (.slice av sc.length cv) vn sc nm ah (mks (fun j => endB (cd sc j)) i2 0) w2 ∧ ∀ j, j < 8 → ah j = if j < i2 then ahM sc j else 0)
    case atStart => exact ⟨0, _, rfl, by omega, hN2.out, fun j _ => by simp⟩
    case round =>
     obtain ⟨i2, ah, rfl, hi2, hA, hah⟩ := hrel
     obtain ⟨g2, hg2⟩ : ∃ g2, g2 = gk := ⟨_, rfl⟩
     clear hN2 s0
     by_cases hlt2 : i2 < sc.length
     ·obtain ⟨c, hci⟩ := get_of_lt (cs := sc) (i := i2) hlt2
      have hcd : cd sc i2 = c := by simp [cd, hci]
      obtain ⟨bc, oc, hva, A9⟩ := call_at (Sl.of_has hA.cl) hci
      subst hva
      have N5 := Mr.hid (hA.below ((Below.refl _ _).alloc (Nat.le_refl _) (cqO c)))
      have hbx := new_at wr (cqO c) _ rfl
      obtain ⟨hbl, g0, g1, g2, g3, g4, g5, g6, g7, g8⟩ := A9
      have hlI2 : (i2 : Int) < (sc.length : Int) := by omega
      clear hA
      go_upto_region 16 with (fail)
      unfold cqO at hbx N5
      clear g0 g1 g2 g3 g4 g5 g6 g7 g8 hbl
      generalize (wr.alloc (Obj.cells #[.int .i64 c.th, .int .i64 c.op, .int .i64 c.arg, .int .i64 c.data, .int .i64 c.beg, .int .i64 c.fin, .int .i64 c.pt, .int .i64 c.ak, .int .i64 c.av] 45 (0, 0))) = w5 at *
      generalize wr.heap.size = b8 at *
      clear wr
      obtain ⟨k0, k1, k2, k3, k4, k5, k6, k7, k8, kl⟩ := cq_cells (c := c) hbx
      have CE := fun w => ended_any c w
      unfold Cq.val at CE
      cases hen : endB c with
      | false =>
       rw [hen] at CE
       replace CE := Mr.hid CE
       go_upto_region 18 with (go_at_call 27; refine (CE.out _).mono ?_; rintro e w6 ⟨rfl, hB6⟩)
       have hms : mks (fun j => endB (cd sc j)) (i2 + 1) 0 = mks (fun j => endB (cd sc j)) i2 0 := by rw [mks, hcd, hen, if_neg (by simp)]
       have N7 : Hid (Nw W bs bm (.slice (some ⟨bc, oc, none⟩) sc.length cv) vn sc nm ah (mks (fun j => endB (cd sc j)) (i2 + 1) 0) w6) := Mr.hid (by rw [hms]; exact N5.out.below hB6)
       have hb7 := (hB6.block _ kl).trans hbx
       clear N5 hB6 hbx kl k0 k1 k2 k3 k4 k5 k6 k7 k8 CE hms
       have s8 := (sb_cells N7.out.sb).2.1
       replace hlI2 := Mr.hid hlI2
       go_wp2
       go_loopg [80] sc.length (fun gk3 s80 w3 => ∃ (k3 : Nat) (ah3 : Nat → Nat), s80 = .int .i64 (k3 : Int) ∧ k3 + gk3 = sc.length ∧ Nw W bs bm (.slice (some ⟨bc, oc, none⟩) sc.length cv) vn sc nm ah3 (mks (fun j => endB (cd sc j)) (i2 + 1) 0) w3 ∧ (∀ j, j < 8 → ah3 j = if j < i2 then ahM sc j else if j = i2 then mks (fun k => ahB (cd sc k) (cd sc i2)) k3 0 else 0) ∧ w3.heap[b8]? = some (cqO c))
       case atStart =>
        refine ⟨0, ah, rfl, by omega, N7.out, fun j hj => ?_, hb7⟩
        rw [hah j hj]
        simp [mks]
       case round =>
        obtain ⟨k3, ah3, rfl, hk3, hA3, hah3, hb8⟩ := hrel
        clear N7 hb7 s8
        by_cases hlt3 : k3 < sc.length
        ·obtain ⟨d, hdi⟩ := get_of_lt (cs := sc) (i := k3) hlt3
         have hdd : cd sc k3 = d := by simp [cd, hdi]
         obtain ⟨bd, od, hvd, D9⟩ := call_at (Sl.of_has hA3.cl) hdi
         obtain ⟨rfl, rfl⟩ : bd = bc ∧ od = oc := by cases hvd; exact ⟨rfl, rfl⟩
         clear hvd
         have M5 := Mr.hid (hA3.below ((Below.refl _ _).alloc (Nat.le_refl _) (cqO d)))
         have hdx := new_at wr (cqO d) _ rfl
         have hb8' : (wr.alloc (cqO d)).heap[b8]? = some (cqO c) := (Below.heap_alloc _ _ _ (Array.getElem?_eq_some_iff.1 hb8).1).trans hb8
         obtain ⟨hdl, g0, g1, g2, g3, g4, g5, g6, g7, g8⟩ := D9
         have hlI3 : (k3 : Int) < (sc.length : Int) := by omega
         clear hA3 hb8
         go_upto_region 21 with (fail)
         unfold cqO at hdx M5 hb8'
         clear g0 g1 g2 g3 g4 g5 g6 g7 g8 hdl
         generalize (wr.alloc (Obj.cells #[.int .i64 d.th, .int .i64 d.op, .int .i64 d.arg, .int .i64 d.data, .int .i64 d.beg, .int .i64 d.fin, .int .i64 d.pt, .int .i64 d.ak, .int .i64 d.av] 45 (0, 0))) = w8 at *
         generalize wr.heap.size = b10 at *
         clear wr
         obtain ⟨x0, x1, x2, x3, x4, x5, x6, x7, x8, xl⟩ := cq_cells (c := d) hdx
         obtain ⟨k0, k1, k2, k3', k4, k5, k6, k7, k8, kl⟩ := cq_cells (c := c) hb8'
         have CA := fun w => ahead_any d c w
         unfold Cq.val at CA
         have hw3 : IntKind.i64.wrap ((k3 : Int) + 1) = (k3 : Int) + 1 := i64x _ (by omega) (by omega)
         cases hahd : ahB d c with
         | false =>
          rw [hahd] at CA
          replace CA := Mr.hid CA
          go_wp2_with (go_at_call 29; refine (CA.out _).mono ?_; rintro e w9 ⟨rfl, hB9⟩)
          go_roundg (gk - 1)
          case measure => omega
          case rel =>
           refine ⟨k3 + 1, ah3, by simp, by omega, M5.out.below hB9, fun j hj => ?_, (hB9.block _ kl).trans hb8'⟩
           rw [hah3 j hj, mks, hdd, hcd, hahd]
           simp
         | true =>
          rw [hahd] at CA
          replace CA := Mr.hid CA
          go_upto_region 22 with (go_at_call 29; refine (CA.out _).mono ?_; rintro e w9 ⟨rfl, hB9⟩)
          have M9 := Mr.hid (M5.out.below hB9)
          have hb9 := (hB9.block _ kl).trans hb8'
          clear M5 hB9 hdx hb8' CA x0 x1 x2 x3 x4 x5 x6 x7 x8 xl k0 k1 k2 k3' k4 k5 k6 k7 k8 kl
          have hai : Hid (ah3 i2 = mks (fun k => ahB (cd sc k) (cd sc i2)) k3 0) := Mr.hid (by rw [hah3 i2 (by omega), if_neg (by omega), if_pos rfl])
          have CI := fun W' => Mr.hid (with_any (ah3 i2) k3 (by rw [hai.out]; exact mks_lt _ _ (by omega)) (by omega) W')
          unfold gv at CI
          have cy22 := sb_ah M9.out.sb i2 (by omega)
          have cf22 := sb_fro M9.out.sb (2 + i2)
          have qi2 : (0 : Int) ≤ (i2 : Int) := by omega
          have qj2 : (i2 : Int) < 8 := by omega
          refine (wpIn_wide (n := 2)).1 ?_
          refine wpIn_region_any (by kernel_rfl) ?_
          refine wpAnyIn_walks (dep := fun i => if i = 4 then [2] else if i = 5 then [4] else if i = 6 then [5, 3] else if i = 7 then [6] else if i = 9 then [7, 8] else if i = 10 then [0] else if i = 11 then [10] else if i = 12 then [11, 1] else if i = 13 then [12, 9] else []) (by kernel_rfl) (fun yy => { tmps := #[Value.slice a i cap, undef, u2, u3, Value.pointer (some { block := bs, off := 0 }), u5, u6, Value.int IntKind.i64 ↑i2, Value.pointer (some { block := b8, off := 0 }), Value.int IntKind.i64 ↑k3, Value.pointer (some { block := b10, off := 0 }), Value.slice a i cap, Value.bool true, Value.bool false, Value.map (some bm), Value.agg #[Value.slice none 0 0, Value.slice none 0 0, Value.int IntKind.u64 0, Value.int IntKind.u64 0, Value.int IntKind.u64 0, Value.int IntKind.u64 0, Value.int IntKind.u64 0, Value.int IntKind.u64 0, Value.int IntKind.u64 0, Value.int IntKind.u64 0, Value.int IntKind.u64 0, Value.map (some bm)], Value.pointer (some { block := bs, off := 0 }), Value.slice a i cap, Value.int IntKind.i64 ↑i, Value.int IntKind.i64 ↑i, Value.bool false, u21, u22, u23, u24, u25, u26, u27, u28, u29, u30, u31, u32, u33, u34, u35, u36, u37, u38, u39, u40, u41, u42, u43, u44, u45, u46, u47, u48, u49, u50, u51, u52, u53, Value.pointer (some { block := bs, off := 0 }), Value.pointer (some { block := bs, off := 0 }), Value.pointer (some { block := bs, off := 0 }), Value.slice (some { block := bd, off := od }) sc.length cv, Value.int IntKind.i64 ↑sc.length, Value.int IntKind.i64 ↑i2, Value.bool true, Value.int IntKind.i64 ↑i2, Value.pointer (some { block := bd, off := od + i2 * 9 }), Value.agg #[Value.int IntKind.i64 c.th, Value.int IntKind.i64 c.op, Value.int IntKind.i64 c.arg, Value.int IntKind.i64 c.data, Value.int IntKind.i64 c.beg, Value.int IntKind.i64 c.fin, Value.int IntKind.i64 c.pt, Value.int IntKind.i64 c.ak, Value.int IntKind.i64 c.av], Value.agg #[Value.int IntKind.i64 c.th, Value.int IntKind.i64 c.op, Value.int IntKind.i64 c.arg, Value.int IntKind.i64 c.data, Value.int IntKind.i64 c.beg, Value.int IntKind.i64 c.fin, Value.int IntKind.i64 c.pt, Value.int IntKind.i64 c.ak, Value.int IntKind.i64 c.av], Value.bool false, u66, u67, u68, u69, u70, u71, u72, u73, u74, Value.pointer (some { block := bs, off := 0 }), Value.pointer (some { block := bs, off := 0 }), Value.pointer (some { block := bs, off := 0 }), Value.slice (some { block := bd, off := od }) sc.length cv, Value.int IntKind.i64 ↑sc.length, Value.int IntKind.i64 ↑k3, Value.bool true, Value.int IntKind.i64 ↑k3, Value.pointer (some { block := bd, off := od + k3 * 9 }), Value.agg #[Value.int IntKind.i64 d.th, Value.int IntKind.i64 d.op, Value.int IntKind.i64 d.arg, Value.int IntKind.i64 d.data, Value.int IntKind.i64 d.beg, Value.int IntKind.i64 d.fin, Value.int IntKind.i64 d.pt, Value.int IntKind.i64 d.ak, Value.int IntKind.i64 d.av], Value.agg #[Value.int IntKind.i64 d.th, Value.int IntKind.i64 d.op, Value.int IntKind.i64 d.arg, Value.int IntKind.i64 d.data, Value.int IntKind.i64 d.beg, Value.int IntKind.i64 d.fin, Value.int IntKind.i64 d.pt, Value.int IntKind.i64 d.ak, Value.int IntKind.i64 d.av], Value.agg #[Value.int IntKind.i64 c.th, Value.int IntKind.i64 c.op, Value.int IntKind.i64 c.arg, Value.int IntKind.i64 c.data, Value.int IntKind.i64 c.beg, Value.int IntKind.i64 c.fin, Value.int IntKind.i64 c.pt, Value.int IntKind.i64 c.ak, Value.int IntKind.i64 c.av], Value.bool true, yy 0, yy 1, yy 2, yy 3, yy 4, yy 5, yy 6, yy 7, yy 8, yy 9, yy 10, yy 11, yy 12, u101, u102, undef], defers := [] }) (fun D yy w => (D 0 = true → yy 0 = Value.pointer (some ⟨bs, 0, none⟩)) ∧ (D 1 = true → yy 1 = Value.int .i64 (i2 : Int)) ∧ (D 2 = true → yy 2 = Value.pointer (some ⟨bs, 0, none⟩)) ∧ (D 3 = true → yy 3 = Value.int .i64 (i2 : Int)) ∧ (D 4 = true → yy 4 = Value.pointer (some ⟨bs, 0, none⟩)) ∧ (D 5 = true → yy 5 = Value.pointer (some ⟨bs, 2, none⟩)) ∧ (D 6 = true → yy 6 = Value.pointer (some ⟨bs, 2 + i2, none⟩)) ∧ (D 7 = true → yy 7 = Value.int .u64 ((ah3 i2 : Nat) : Int)) ∧ (D 8 = true → yy 8 = Value.int .i64 (k3 : Int)) ∧ (D 9 = true → yy 9 = Value.int .u64 ((ah3 i2 ||| 2 ^ k3 : Nat) : Int)) ∧ (D 10 = true → yy 10 = Value.pointer (some ⟨bs, 0, none⟩)) ∧ (D 11 = true → yy 11 = Value.pointer (some ⟨bs, 2, none⟩)) ∧ (D 12 = true → yy 12 = Value.pointer (some ⟨bs, 2 + i2, none⟩)) ∧ (D 13 = false → w = w9.drew) ∧ (D 13 = true → w = ((w9.setCell ⟨bs, 2 + i2, none⟩ (.int .u64 ((ah3 i2 ||| 2 ^ k3 : Nat) : Int))).drew))) rfl (fun j => if j = 0 then u88 else if j = 1 then u89 else if j = 2 then u90 else if j = 3 then u91 else if j = 4 then u92 else if j = 5 then u93 else if j = 6 then u94 else if j = 7 then u95 else if j = 8 then u96 else if j = 9 then u97 else if j = 10 then u98 else if j = 11 then u99 else if j = 12 then u100 else undef) ⟨fun h => by simp at h, fun h => by simp at h, fun h => by simp at h, fun h => by simp at h, fun h => by simp at h, fun h => by simp at h, fun h => by simp at h, fun h => by simp at h, fun h => by simp at h, fun h => by simp at h, fun h => by simp at h, fun h => by simp at h, fun h => by simp at h, fun _ => rfl, fun h => by simp at h⟩ ?hs ?he
          case he =>
           rintro yy w ⟨_, _, _, _, _, _, _, _, _, _, _, _, _, _, n1⟩
           have hww := n1 (by decide)
           clear n1
           dsimp only
           have NF := Mr.hid ((M9.out.setA (i := i2) (by omega) (ah3 i2 ||| 2 ^ k3)).below (Below.refl _ _).drew)
           have hbF : (w9.setCell ⟨bs, 2 + i2, none⟩ (gv (ah3 i2 ||| 2 ^ k3))).drew.heap[b8]? = some (cqO c) := by
            show (w9.setCell ⟨bs, 2 + i2, none⟩ (gv (ah3 i2 ||| 2 ^ k3))).heap[b8]? = some (cqO c)
            rw [heap_setCell_other _ _ _ _ (show b8 ≠ bs from fun e => by subst e; have h1 := M9.out.sb; rw [hb9] at h1; simp [cqO, sbO] at h1)]
            exact hb9
           unfold gv at NF hbF
           rw [← hww] at NF hbF
           clear hww M9 hb9 CI cy22 cf22
           go_wp2
           go_roundg (gk - 1)
           case measure => omega
           case rel =>
            refine ⟨k3 + 1, _, by simp, by omega, NF.out, fun j hj => ?_, hbF⟩
            by_cases e2 : j = i2
            ·subst e2
             rw [if_pos rfl, if_neg (by omega), if_pos rfl, hai.out, mks, hdd, hcd, hahd, if_pos rfl]
            ·rw [if_neg e2, hah3 j hj, if_neg e2]
             by_cases e1 : j < i2
             ·rw [if_pos e1, if_pos e1]
             ·rw [if_neg e1, if_neg e1, if_neg e2]
          case hs =>
           intro ii hi D yy w hDi hdep hcl hI K hK
           have hi' : ii < 14 := hi
           clear hi
           obtain rfl | rfl | rfl | rfl | rfl | rfl | rfl | rfl | rfl | rfl | rfl | rfl | rfl | rfl : ii = 0 ∨ ii = 1 ∨ ii = 2 ∨ ii = 3 ∨ ii = 4 ∨ ii = 5 ∨ ii = 6 ∨ ii = 7 ∨ ii = 8 ∨ ii = 9 ∨ ii = 10 ∨ ii = 11 ∨ ii = 12 ∨ ii = 13 := by omega
           ·obtain ⟨e0, e1, e2, e3, e4, e5, e6, e7, e8, e9, e10, e11, e12, n0, n1⟩ := hI
            have d13 : D 13 = false := by
             cases h : D 13 with
             | false => rfl
             | true =>
              have q0 := hcl 13 h 12 (by decide)
              have q1 := hcl 12 q0 11 (by decide)
              have q2 := hcl 11 q1 10 (by decide)
              have q3 := hcl 10 q2 0 (by decide)
              rw [hDi] at q3; cases q3
            have hww := n0 d13
            subst hww
            refine wpOpIn_step rfl (fun K' hK' => ?_)
            try simp only [Act.put, LA, LB, LC, LD, LE, LF]
            rw [if_pos (by kernel_rfl)]
            refine ⟨fun _ _ => trivial, ?_⟩
            go_simp
            have hq' := hK (Value.pointer (some ⟨bs, 0, none⟩)) w9.drew ⟨(fun _ => by simp [upd]), (by simpa [upb, upd] using e1), (by simpa [upb, upd] using e2), (by simpa [upb, upd] using e3), (by simpa [upb, upd] using e4), (by simpa [upb, upd] using e5), (by simpa [upb, upd] using e6), (by simpa [upb, upd] using e7), (by simpa [upb, upd] using e8), (by simpa [upb, upd] using e9), (by simpa [upb, upd] using e10), (by simpa [upb, upd] using e11), (by simpa [upb, upd] using e12), (fun _ => rfl), (fun h => by simp [upb, d13] at h)⟩
            refine hK' _ _ ?_
            simpa [upd] using hq'
           ·obtain ⟨e0, e1, e2, e3, e4, e5, e6, e7, e8, e9, e10, e11, e12, n0, n1⟩ := hI
            have d13 : D 13 = false := by
             cases h : D 13 with
             | false => rfl
             | true =>
              have q0 := hcl 13 h 12 (by decide)
              have q1 := hcl 12 q0 1 (by decide)
              rw [hDi] at q1; cases q1
            have hww := n0 d13
            subst hww
            refine wpOpIn_step rfl (fun K' hK' => ?_)
            try simp only [Act.put, LA, LB, LC, LD, LE, LF]
            rw [if_pos (by kernel_rfl)]
            refine ⟨fun _ _ => trivial, ?_⟩
            go_simp
            have hq' := hK (Value.int .i64 (i2 : Int)) w9.drew ⟨(by simpa [upb, upd] using e0), (fun _ => by simp [upd]), (by simpa [upb, upd] using e2), (by simpa [upb, upd] using e3), (by simpa [upb, upd] using e4), (by simpa [upb, upd] using e5), (by simpa [upb, upd] using e6), (by simpa [upb, upd] using e7), (by simpa [upb, upd] using e8), (by simpa [upb, upd] using e9), (by simpa [upb, upd] using e10), (by simpa [upb, upd] using e11), (by simpa [upb, upd] using e12), (fun _ => rfl), (fun h => by simp [upb, d13] at h)⟩
            refine hK' _ _ ?_
            simpa [upd] using hq'
           ·obtain ⟨e0, e1, e2, e3, e4, e5, e6, e7, e8, e9, e10, e11, e12, n0, n1⟩ := hI
            have d13 : D 13 = false := by
             cases h : D 13 with
             | false => rfl
             | true =>
              have q0 := hcl 13 h 9 (by decide)
              have q1 := hcl 9 q0 7 (by decide)
              have q2 := hcl 7 q1 6 (by decide)
              have q3 := hcl 6 q2 5 (by decide)
              have q4 := hcl 5 q3 4 (by decide)
              have q5 := hcl 4 q4 2 (by decide)
              rw [hDi] at q5; cases q5
            have hww := n0 d13
            subst hww
            refine wpOpIn_step rfl (fun K' hK' => ?_)
            try simp only [Act.put, LA, LB, LC, LD, LE, LF]
            rw [if_pos (by kernel_rfl)]
            refine ⟨fun _ _ => trivial, ?_⟩
            go_simp
            have hq' := hK (Value.pointer (some ⟨bs, 0, none⟩)) w9.drew ⟨(by simpa [upb, upd] using e0), (by simpa [upb, upd] using e1), (fun _ => by simp [upd]), (by simpa [upb, upd] using e3), (by simpa [upb, upd] using e4), (by simpa [upb, upd] using e5), (by simpa [upb, upd] using e6), (by simpa [upb, upd] using e7), (by simpa [upb, upd] using e8), (by simpa [upb, upd] using e9), (by simpa [upb, upd] using e10), (by simpa [upb, upd] using e11), (by simpa [upb, upd] using e12), (fun _ => rfl), (fun h => by simp [upb, d13] at h)⟩
            refine hK' _ _ ?_
            simpa [upd] using hq'
           ·obtain ⟨e0, e1, e2, e3, e4, e5, e6, e7, e8, e9, e10, e11, e12, n0, n1⟩ := hI
            have d13 : D 13 = false := by
             cases h : D 13 with
             | false => rfl
             | true =>
              have q0 := hcl 13 h 9 (by decide)
              have q1 := hcl 9 q0 7 (by decide)
              have q2 := hcl 7 q1 6 (by decide)
              have q3 := hcl 6 q2 3 (by decide)
              rw [hDi] at q3; cases q3
            have hww := n0 d13
            subst hww
            refine wpOpIn_step rfl (fun K' hK' => ?_)
            try simp only [Act.put, LA, LB, LC, LD, LE, LF]
            rw [if_pos (by kernel_rfl)]
            refine ⟨fun _ _ => trivial, ?_⟩
            go_simp
            have hq' := hK (Value.int .i64 (i2 : Int)) w9.drew ⟨(by simpa [upb, upd] using e0), (by simpa [upb, upd] using e1), (by simpa [upb, upd] using e2), (fun _ => by simp [upd]), (by simpa [upb, upd] using e4), (by simpa [upb, upd] using e5), (by simpa [upb, upd] using e6), (by simpa [upb, upd] using e7), (by simpa [upb, upd] using e8), (by simpa [upb, upd] using e9), (by simpa [upb, upd] using e10), (by simpa [upb, upd] using e11), (by simpa [upb, upd] using e12), (fun _ => rfl), (fun h => by simp [upb, d13] at h)⟩
            refine hK' _ _ ?_
            simpa [upd] using hq'
           ·obtain ⟨e0, e1, e2, e3, e4, e5, e6, e7, e8, e9, e10, e11, e12, n0, n1⟩ := hI
            have d13 : D 13 = false := by
             cases h : D 13 with
             | false => rfl
             | true =>
              have q0 := hcl 13 h 9 (by decide)
              have q1 := hcl 9 q0 7 (by decide)
              have q2 := hcl 7 q1 6 (by decide)
              have q3 := hcl 6 q2 5 (by decide)
              have q4 := hcl 5 q3 4 (by decide)
              rw [hDi] at q4; cases q4
            have hww := n0 d13
            subst hww
            have v2 := e2 (hdep 2 (by decide))
            refine wpOpIn_step rfl (fun K' hK' => ?_)
            try simp only [Act.put, LA, LB, LC, LD, LE, LF]
            rw [if_pos (by kernel_rfl)]
            refine ⟨fun _ _ => trivial, ?_⟩
            go_simp
            have hq' := hK (Value.pointer (some ⟨bs, 0, none⟩)) w9.drew ⟨(by simpa [upb, upd] using e0), (by simpa [upb, upd] using e1), (by simpa [upb, upd] using e2), (by simpa [upb, upd] using e3), (fun _ => by simp [upd]), (by simpa [upb, upd] using e5), (by simpa [upb, upd] using e6), (by simpa [upb, upd] using e7), (by simpa [upb, upd] using e8), (by simpa [upb, upd] using e9), (by simpa [upb, upd] using e10), (by simpa [upb, upd] using e11), (by simpa [upb, upd] using e12), (fun _ => rfl), (fun h => by simp [upb, d13] at h)⟩
            refine hK' _ _ ?_
            simpa [upd, v2] using hq'
           ·obtain ⟨e0, e1, e2, e3, e4, e5, e6, e7, e8, e9, e10, e11, e12, n0, n1⟩ := hI
            have d13 : D 13 = false := by
             cases h : D 13 with
             | false => rfl
             | true =>
              have q0 := hcl 13 h 9 (by decide)
              have q1 := hcl 9 q0 7 (by decide)
              have q2 := hcl 7 q1 6 (by decide)
              have q3 := hcl 6 q2 5 (by decide)
              rw [hDi] at q3; cases q3
            have hww := n0 d13
            subst hww
            have v4 := e4 (hdep 4 (by decide))
            refine wpOpIn_step rfl (fun K' hK' => ?_)
            try simp only [Act.put, LA, LB, LC, LD, LE, LF]
            rw [if_pos (by kernel_rfl)]
            refine ⟨fun _ _ => trivial, ?_⟩
            go_simp
            have hq' := hK (Value.pointer (some ⟨bs, 2, none⟩)) w9.drew ⟨(by simpa [upb, upd] using e0), (by simpa [upb, upd] using e1), (by simpa [upb, upd] using e2), (by simpa [upb, upd] using e3), (by simpa [upb, upd] using e4), (fun _ => by simp [upd]), (by simpa [upb, upd] using e6), (by simpa [upb, upd] using e7), (by simpa [upb, upd] using e8), (by simpa [upb, upd] using e9), (by simpa [upb, upd] using e10), (by simpa [upb, upd] using e11), (by simpa [upb, upd] using e12), (fun _ => rfl), (fun h => by simp [upb, d13] at h)⟩
            refine hK' _ _ ?_
            simpa [upd, v4] using hq'
           ·obtain ⟨e0, e1, e2, e3, e4, e5, e6, e7, e8, e9, e10, e11, e12, n0, n1⟩ := hI
            have d13 : D 13 = false := by
             cases h : D 13 with
             | false => rfl
             | true =>
              have q0 := hcl 13 h 9 (by decide)
              have q1 := hcl 9 q0 7 (by decide)
              have q2 := hcl 7 q1 6 (by decide)
              rw [hDi] at q2; cases q2
            have hww := n0 d13
            subst hww
            have v5 := e5 (hdep 5 (by decide))
            have v3 := e3 (hdep 3 (by decide))
            refine wpOpIn_step rfl (fun K' hK' => ?_)
            try simp only [Act.put, LA, LB, LC, LD, LE, LF]
            rw [if_pos (by kernel_rfl)]
            refine ⟨fun _ _ => trivial, ?_⟩
            go_simp
            have hq' := hK (Value.pointer (some ⟨bs, 2 + i2, none⟩)) w9.drew ⟨(by simpa [upb, upd] using e0), (by simpa [upb, upd] using e1), (by simpa [upb, upd] using e2), (by simpa [upb, upd] using e3), (by simpa [upb, upd] using e4), (by simpa [upb, upd] using e5), (fun _ => by simp [upd]), (by simpa [upb, upd] using e7), (by simpa [upb, upd] using e8), (by simpa [upb, upd] using e9), (by simpa [upb, upd] using e10), (by simpa [upb, upd] using e11), (by simpa [upb, upd] using e12), (fun _ => rfl), (fun h => by simp [upb, d13] at h)⟩
            refine hK' _ _ ?_
            simpa [upd, v5, v3] using hq'
           ·obtain ⟨e0, e1, e2, e3, e4, e5, e6, e7, e8, e9, e10, e11, e12, n0, n1⟩ := hI
            have d13 : D 13 = false := by
             cases h : D 13 with
             | false => rfl
             | true =>
              have q0 := hcl 13 h 9 (by decide)
              have q1 := hcl 9 q0 7 (by decide)
              rw [hDi] at q1; cases q1
            have hww := n0 d13
            subst hww
            have v6 := e6 (hdep 6 (by decide))
            refine wpOpIn_step rfl (fun K' hK' => ?_)
            try simp only [Act.put, LA, LB, LC, LD, LE, LF]
            rw [if_pos (by kernel_rfl)]
            refine ⟨fun _ _ => trivial, ?_⟩
            go_simp
            have hq' := hK (Value.int .u64 ((ah3 i2 : Nat) : Int)) w9.drew ⟨(by simpa [upb, upd] using e0), (by simpa [upb, upd] using e1), (by simpa [upb, upd] using e2), (by simpa [upb, upd] using e3), (by simpa [upb, upd] using e4), (by simpa [upb, upd] using e5), (by simpa [upb, upd] using e6), (fun _ => by simp [upd]), (by simpa [upb, upd] using e8), (by simpa [upb, upd] using e9), (by simpa [upb, upd] using e10), (by simpa [upb, upd] using e11), (by simpa [upb, upd] using e12), (fun _ => rfl), (fun h => by simp [upb, d13] at h)⟩
            refine hK' _ _ ?_
            simpa [upd, v6] using hq'
           ·obtain ⟨e0, e1, e2, e3, e4, e5, e6, e7, e8, e9, e10, e11, e12, n0, n1⟩ := hI
            have d13 : D 13 = false := by
             cases h : D 13 with
             | false => rfl
             | true =>
              have q0 := hcl 13 h 9 (by decide)
              have q1 := hcl 9 q0 8 (by decide)
              rw [hDi] at q1; cases q1
            have hww := n0 d13
            subst hww
            refine wpOpIn_step rfl (fun K' hK' => ?_)
            try simp only [Act.put, LA, LB, LC, LD, LE, LF]
            rw [if_pos (by kernel_rfl)]
            refine ⟨fun _ _ => trivial, ?_⟩
            go_simp
            have hq' := hK (Value.int .i64 (k3 : Int)) w9.drew ⟨(by simpa [upb, upd] using e0), (by simpa [upb, upd] using e1), (by simpa [upb, upd] using e2), (by simpa [upb, upd] using e3), (by simpa [upb, upd] using e4), (by simpa [upb, upd] using e5), (by simpa [upb, upd] using e6), (by simpa [upb, upd] using e7), (fun _ => by simp [upd]), (by simpa [upb, upd] using e9), (by simpa [upb, upd] using e10), (by simpa [upb, upd] using e11), (by simpa [upb, upd] using e12), (fun _ => rfl), (fun h => by simp [upb, d13] at h)⟩
            refine hK' _ _ ?_
            simpa [upd] using hq'
           ·obtain ⟨e0, e1, e2, e3, e4, e5, e6, e7, e8, e9, e10, e11, e12, n0, n1⟩ := hI
            have d13 : D 13 = false := by
             cases h : D 13 with
             | false => rfl
             | true =>
              have q0 := hcl 13 h 9 (by decide)
              rw [hDi] at q0; cases q0
            have hww := n0 d13
            subst hww
            have v7 := e7 (hdep 7 (by decide))
            have v8 := e8 (hdep 8 (by decide))
            refine wpOpIn_step rfl (fun K' hK' => ?_)
            try simp only [Act.put, LA, LB, LC, LD, LE, LF]
            rw [if_pos (by kernel_rfl)]
            refine ⟨fun _ _ => trivial, ?_⟩
            go_simp
            refine ((callsIn_wide.2 (CI _).out).mono ?_)
            rintro e w' ⟨rfl, hwe⟩
            subst hwe
            have hq' := hK (Value.int .u64 ((ah3 i2 ||| 2 ^ k3 : Nat) : Int)) w9.drew ⟨(by simpa [upb, upd] using e0), (by simpa [upb, upd] using e1), (by simpa [upb, upd] using e2), (by simpa [upb, upd] using e3), (by simpa [upb, upd] using e4), (by simpa [upb, upd] using e5), (by simpa [upb, upd] using e6), (by simpa [upb, upd] using e7), (by simpa [upb, upd] using e8), (fun _ => by simp [upd]), (by simpa [upb, upd] using e10), (by simpa [upb, upd] using e11), (by simpa [upb, upd] using e12), (fun _ => rfl), (fun h => by simp [upb, d13] at h)⟩
            refine hK' _ _ ?_
            simpa [upd, v7, v8] using hq'
           ·obtain ⟨e0, e1, e2, e3, e4, e5, e6, e7, e8, e9, e10, e11, e12, n0, n1⟩ := hI
            have d13 : D 13 = false := by
             cases h : D 13 with
             | false => rfl
             | true =>
              have q0 := hcl 13 h 12 (by decide)
              have q1 := hcl 12 q0 11 (by decide)
              have q2 := hcl 11 q1 10 (by decide)
              rw [hDi] at q2; cases q2
            have hww := n0 d13
            subst hww
            have v0 := e0 (hdep 0 (by decide))
            refine wpOpIn_step rfl (fun K' hK' => ?_)
            try simp only [Act.put, LA, LB, LC, LD, LE, LF]
            rw [if_pos (by kernel_rfl)]
            refine ⟨fun _ _ => trivial, ?_⟩
            go_simp
            have hq' := hK (Value.pointer (some ⟨bs, 0, none⟩)) w9.drew ⟨(by simpa [upb, upd] using e0), (by simpa [upb, upd] using e1), (by simpa [upb, upd] using e2), (by simpa [upb, upd] using e3), (by simpa [upb, upd] using e4), (by simpa [upb, upd] using e5), (by simpa [upb, upd] using e6), (by simpa [upb, upd] using e7), (by simpa [upb, upd] using e8), (by simpa [upb, upd] using e9), (fun _ => by simp [upd]), (by simpa [upb, upd] using e11), (by simpa [upb, upd] using e12), (fun _ => rfl), (fun h => by simp [upb, d13] at h)⟩
            refine hK' _ _ ?_
            simpa [upd, v0] using hq'
           ·obtain ⟨e0, e1, e2, e3, e4, e5, e6, e7, e8, e9, e10, e11, e12, n0, n1⟩ := hI
            have d13 : D 13 = false := by
             cases h : D 13 with
             | false => rfl
             | true =>
              have q0 := hcl 13 h 12 (by decide)
              have q1 := hcl 12 q0 11 (by decide)
              rw [hDi] at q1; cases q1
            have hww := n0 d13
            subst hww
            have v10 := e10 (hdep 10 (by decide))
            refine wpOpIn_step rfl (fun K' hK' => ?_)
            try simp only [Act.put, LA, LB, LC, LD, LE, LF]
            rw [if_pos (by kernel_rfl)]
            refine ⟨fun _ _ => trivial, ?_⟩
            go_simp
            have hq' := hK (Value.pointer (some ⟨bs, 2, none⟩)) w9.drew ⟨(by simpa [upb, upd] using e0), (by simpa [upb, upd] using e1), (by simpa [upb, upd] using e2), (by simpa [upb, upd] using e3), (by simpa [upb, upd] using e4), (by simpa [upb, upd] using e5), (by simpa [upb, upd] using e6), (by simpa [upb, upd] using e7), (by simpa [upb, upd] using e8), (by simpa [upb, upd] using e9), (by simpa [upb, upd] using e10), (fun _ => by simp [upd]), (by simpa [upb, upd] using e12), (fun _ => rfl), (fun h => by simp [upb, d13] at h)⟩
            refine hK' _ _ ?_
            simpa [upd, v10] using hq'
           ·obtain ⟨e0, e1, e2, e3, e4, e5, e6, e7, e8, e9, e10, e11, e12, n0, n1⟩ := hI
            have d13 : D 13 = false := by
             cases h : D 13 with
             | false => rfl
             | true =>
              have q0 := hcl 13 h 12 (by decide)
              rw [hDi] at q0; cases q0
            have hww := n0 d13
            subst hww
            have v11 := e11 (hdep 11 (by decide))
            have v1 := e1 (hdep 1 (by decide))
            refine wpOpIn_step rfl (fun K' hK' => ?_)
            try simp only [Act.put, LA, LB, LC, LD, LE, LF]
            rw [if_pos (by kernel_rfl)]
            refine ⟨fun _ _ => trivial, ?_⟩
            go_simp
            have hq' := hK (Value.pointer (some ⟨bs, 2 + i2, none⟩)) w9.drew ⟨(by simpa [upb, upd] using e0), (by simpa [upb, upd] using e1), (by simpa [upb, upd] using e2), (by simpa [upb, upd] using e3), (by simpa [upb, upd] using e4), (by simpa [upb, upd] using e5), (by simpa [upb, upd] using e6), (by simpa [upb, upd] using e7), (by simpa [upb, upd] using e8), (by simpa [upb, upd] using e9), (by simpa [upb, upd] using e10), (by simpa [upb, upd] using e11), (fun _ => by simp [upd]), (fun _ => rfl), (fun h => by simp [upb, d13] at h)⟩
            refine hK' _ _ ?_
            simpa [upd, v11, v1] using hq'
           ·obtain ⟨e0, e1, e2, e3, e4, e5, e6, e7, e8, e9, e10, e11, e12, n0, n1⟩ := hI
            have hww := n0 hDi
            subst hww
            have v12 := e12 (hdep 12 (by decide))
            have v9 := e9 (hdep 9 (by decide))
            refine wpOpIn_step rfl (fun K' hK' => ?_)
            try simp only [Act.put, LA, LB, LC, LD, LE, LF]
            rw [if_pos (by kernel_rfl)]
            refine ⟨fun _ _ => trivial, ?_⟩
            go_simp
            have hq' := hK (undef) ((w9.setCell ⟨bs, 2 + i2, none⟩ (.int .u64 ((ah3 i2 ||| 2 ^ k3 : Nat) : Int))).drew) ⟨(by simpa [upb, upd] using e0), (by simpa [upb, upd] using e1), (by simpa [upb, upd] using e2), (by simpa [upb, upd] using e3), (by simpa [upb, upd] using e4), (by simpa [upb, upd] using e5), (by simpa [upb, upd] using e6), (by simpa [upb, upd] using e7), (by simpa [upb, upd] using e8), (by simpa [upb, upd] using e9), (by simpa [upb, upd] using e10), (by simpa [upb, upd] using e11), (by simpa [upb, upd] using e12), (fun h => by simp [upb] at h), (fun _ => rfl)⟩
            refine hK' _ _ ?_
            simpa [upd, v12, v9] using hq'
        ·obtain rfl : k3 = sc.length := by omega
         have hw2 : IntKind.i64.wrap ((i2 : Int) + 1) = (i2 : Int) + 1 := i64x _ (by omega) (by omega)
         go_wp2
         go_roundg (g2 - 1)
         case measure => omega
         case rel =>
          refine ⟨i2 + 1, ah3, by simp, by omega, hA3, fun j hj => ?_⟩
          rw [hah3 j hj]
          by_cases e1 : j < i2
          ·rw [if_pos e1, if_pos (by omega)]
          ·by_cases e2 : j = i2
           ·subst e2
            rw [if_neg e1, if_pos rfl, if_pos (by omega)]
            rfl
           ·rw [if_neg e1, if_neg e2, if_neg (by omega)]
      | true =>
       rw [hen] at CE
       replace CE := Mr.hid CE
       go_upto_region 17 with (go_at_call 27; refine (CE.out _).mono ?_; rintro e w6 ⟨rfl, hB6⟩)
       have N6 := N5.out.below hB6
       have hb6 := (hB6.block _ kl).trans hbx
       have hlb := N6.lb
       have s10 := (sb_cells N6.sb).2.2.2.1
       have f10 := sb_fro N6.sb 10
       have hms : mks (fun j => endB (cd sc j)) (i2 + 1) 0 = mks (fun j => endB (cd sc j)) i2 0 ||| 2 ^ i2 := by rw [mks, hcd, hen, if_pos rfl]
       have CI := fun W' => Mr.hid (with_any (mks (fun j => endB (cd sc j)) i2 0) i2 (mks_lt _ _ (by omega)) (by omega) W')
       rw [← hms] at CI
       have N7 := Mr.hid (N6.setE (mks (fun j => endB (cd sc j)) (i2 + 1) 0))
       have hb7 : (w6.setCell ⟨bs, 10, none⟩ (gv (mks (fun j => endB (cd sc j)) (i2 + 1) 0))).heap[b8]? = some (cqO c) := by
        rw [heap_setCell_other _ _ _ _ (show b8 ≠ bs from fun e => by subst e; have h1 := N6.sb; rw [hb6] at h1; simp [cqO, sbO] at h1)]
        exact hb6
       clear N5 N6 hB6 hbx hb6 kl k0 k1 k2 k3 k4 k5 k6 k7 k8 CE hms
       unfold gv at CI N7 hb7
       go_upto_region 18 with (go_at_call 28; refine (CI _).out.mono ?_; rintro e w7 ⟨rfl, rfl⟩)
       clear CI s10 f10
       generalize hW7 : World.setCell _ _ _ = W7 at *
       clear hW7
       have s8 := (sb_cells N7.out.sb).2.1
       replace hlI2 := Mr.hid hlI2
       go_wp2
       go_loopg [80] sc.length (fun gk3 s80 w3 => ∃ (k3 : Nat) (ah3 : Nat → Nat), s80 = .int .i64 (k3 : Int) ∧ k3 + gk3 = sc.length ∧ Nw W bs bm (.slice (some ⟨bc, oc, none⟩) sc.length cv) vn sc nm ah3 (mks (fun j => endB (cd sc j)) (i2 + 1) 0) w3 ∧ (∀ j, j < 8 → ah3 j = if j < i2 then ahM sc j else if j = i2 then mks (fun k => ahB (cd sc k) (cd sc i2)) k3 0 else 0) ∧ w3.heap[b8]? = some (cqO c))
       case atStart =>
        refine ⟨0, ah, rfl, by omega, N7.out, fun j hj => ?_, hb7⟩
        rw [hah j hj]
        simp [mks]
       case round =>
        obtain ⟨k3, ah3, rfl, hk3, hA3, hah3, hb8⟩ := hrel
        clear N7 hb7 s8
        by_cases hlt3 : k3 < sc.length
        ·obtain ⟨d, hdi⟩ := get_of_lt (cs := sc) (i := k3) hlt3
         have hdd : cd sc k3 = d := by simp [cd, hdi]
         obtain ⟨bd, od, hvd, D9⟩ := call_at (Sl.of_has hA3.cl) hdi
         obtain ⟨rfl, rfl⟩ : bd = bc ∧ od = oc := by cases hvd; exact ⟨rfl, rfl⟩
         clear hvd
         have M5 := Mr.hid (hA3.below ((Below.refl _ _).alloc (Nat.le_refl _) (cqO d)))
         have hdx := new_at wr (cqO d) _ rfl
         have hb8' : (wr.alloc (cqO d)).heap[b8]? = some (cqO c) := (Below.heap_alloc _ _ _ (Array.getElem?_eq_some_iff.1 hb8).1).trans hb8
         obtain ⟨hdl, g0, g1, g2, g3, g4, g5, g6, g7, g8⟩ := D9
         have hlI3 : (k3 : Int) < (sc.length : Int) := by omega
         clear hA3 hb8
         go_upto_region 21 with (fail)
         unfold cqO at hdx M5 hb8'
         clear g0 g1 g2 g3 g4 g5 g6 g7 g8 hdl
         generalize (wr.alloc (Obj.cells #[.int .i64 d.th, .int .i64 d.op, .int .i64 d.arg, .int .i64 d.data, .int .i64 d.beg, .int .i64 d.fin, .int .i64 d.pt, .int .i64 d.ak, .int .i64 d.av] 45 (0, 0))) = w8 at *
         generalize wr.heap.size = b10 at *
         clear wr
         obtain ⟨x0, x1, x2, x3, x4, x5, x6, x7, x8, xl⟩ := cq_cells (c := d) hdx
         obtain ⟨k0, k1, k2, k3', k4, k5, k6, k7, k8, kl⟩ := cq_cells (c := c) hb8'
         have CA := fun w => ahead_any d c w
         unfold Cq.val at CA
         have hw3 : IntKind.i64.wrap ((k3 : Int) + 1) = (k3 : Int) + 1 := i64x _ (by omega) (by omega)
         cases hahd : ahB d c with
         | false =>
          rw [hahd] at CA
          replace CA := Mr.hid CA
          go_wp2_with (go_at_call 29; refine (CA.out _).mono ?_; rintro e w9 ⟨rfl, hB9⟩)
          go_roundg (gk - 1)
          case measure => omega
          case rel =>
           refine ⟨k3 + 1, ah3, by simp, by omega, M5.out.below hB9, fun j hj => ?_, (hB9.block _ kl).trans hb8'⟩
           rw [hah3 j hj, mks, hdd, hcd, hahd]
           simp
         | true =>
          rw [hahd] at CA
          replace CA := Mr.hid CA
          go_upto_region 22 with (go_at_call 29; refine (CA.out _).mono ?_; rintro e w9 ⟨rfl, hB9⟩)
          have M9 := Mr.hid (M5.out.below hB9)
          have hb9 := (hB9.block _ kl).trans hb8'
          clear M5 hB9 hdx hb8' CA x0 x1 x2 x3 x4 x5 x6 x7 x8 xl k0 k1 k2 k3' k4 k5 k6 k7 k8 kl
          have hai : Hid (ah3 i2 = mks (fun k => ahB (cd sc k) (cd sc i2)) k3 0) := Mr.hid (by rw [hah3 i2 (by omega), if_neg (by omega), if_pos rfl])
          have CI := fun W' => Mr.hid (with_any (ah3 i2) k3 (by rw [hai.out]; exact mks_lt _ _ (by omega)) (by omega) W')
          unfold gv at CI
          have cy22 := sb_ah M9.out.sb i2 (by omega)
          have cf22 := sb_fro M9.out.sb (2 + i2)
          have qi2 : (0 : Int) ≤ (i2 : Int) := by omega
          have qj2 : (i2 : Int) < 8 := by omega
          refine (wpIn_wide (n := 2)).1 ?_
          refine wpIn_region_any (by kernel_rfl) ?_
          refine wpAnyIn_walks (dep := fun i => if i = 4 then [2] else if i = 5 then [4] else if i = 6 then [5, 3] else if i = 7 then [6] else if i = 9 then [7, 8] else if i = 10 then [0] else if i = 11 then [10] else if i = 12 then [11, 1] else if i = 13 then [12, 9] else []) (by kernel_rfl) (fun yy => { tmps := #[Value.slice a i cap, undef, u2, u3, Value.pointer (some { block := bs, off := 0 }), u5, u6, Value.int IntKind.i64 ↑i2, Value.pointer (some { block := b8, off := 0 }), Value.int IntKind.i64 ↑k3, Value.pointer (some { block := b10, off := 0 }), Value.slice a i cap, Value.bool true, Value.bool false, Value.map (some bm), Value.agg #[Value.slice none 0 0, Value.slice none 0 0, Value.int IntKind.u64 0, Value.int IntKind.u64 0, Value.int IntKind.u64 0, Value.int IntKind.u64 0, Value.int IntKind.u64 0, Value.int IntKind.u64 0, Value.int IntKind.u64 0, Value.int IntKind.u64 0, Value.int IntKind.u64 0, Value.map (some bm)], Value.pointer (some { block := bs, off := 0 }), Value.slice a i cap, Value.int IntKind.i64 ↑i, Value.int IntKind.i64 ↑i, Value.bool false, u21, u22, u23, u24, u25, u26, u27, u28, u29, u30, u31, u32, u33, u34, u35, u36, u37, u38, u39, u40, u41, u42, u43, u44, u45, u46, u47, u48, u49, u50, u51, u52, u53, Value.pointer (some { block := bs, off := 0 }), Value.pointer (some { block := bs, off := 0 }), Value.pointer (some { block := bs, off := 0 }), Value.slice (some { block := bd, off := od }) sc.length cv, Value.int IntKind.i64 ↑sc.length, Value.int IntKind.i64 ↑i2, Value.bool true, Value.int IntKind.i64 ↑i2, Value.pointer (some { block := bd, off := od + i2 * 9 }), Value.agg #[Value.int IntKind.i64 c.th, Value.int IntKind.i64 c.op, Value.int IntKind.i64 c.arg, Value.int IntKind.i64 c.data, Value.int IntKind.i64 c.beg, Value.int IntKind.i64 c.fin, Value.int IntKind.i64 c.pt, Value.int IntKind.i64 c.ak, Value.int IntKind.i64 c.av], Value.agg #[Value.int IntKind.i64 c.th, Value.int IntKind.i64 c.op, Value.int IntKind.i64 c.arg, Value.int IntKind.i64 c.data, Value.int IntKind.i64 c.beg, Value.int IntKind.i64 c.fin, Value.int IntKind.i64 c.pt, Value.int IntKind.i64 c.ak, Value.int IntKind.i64 c.av], Value.bool true, Value.pointer (some { block := bs, off := 0 }), Value.pointer (some { block := bs, off := 0 }), Value.pointer (some { block := bs, off := 0 }), Value.pointer (some { block := bs, off := 10 }), Value.int IntKind.u64 ↑(mks (fun j => endB (cd sc j)) i2 0), Value.int IntKind.i64 ↑i2, Value.int IntKind.u64 ↑(mks (fun j => endB (cd sc j)) (i2 + 1) 0), Value.pointer (some { block := bs, off := 0 }), Value.pointer (some { block := bs, off := 10 }), Value.pointer (some { block := bs, off := 0 }), Value.pointer (some { block := bs, off := 0 }), Value.pointer (some { block := bs, off := 0 }), Value.slice (some { block := bd, off := od }) sc.length cv, Value.int IntKind.i64 ↑sc.length, Value.int IntKind.i64 ↑k3, Value.bool true, Value.int IntKind.i64 ↑k3, Value.pointer (some { block := bd, off := od + k3 * 9 }), Value.agg #[Value.int IntKind.i64 d.th, Value.int IntKind.i64 d.op, Value.int IntKind.i64 d.arg, Value.int IntKind.i64 d.data, Value.int IntKind.i64 d.beg, Value.int IntKind.i64 d.fin, Value.int IntKind.i64 d.pt, Value.int IntKind.i64 d.ak, Value.int IntKind.i64 d.av], Value.agg #[Value.int IntKind.i64 d.th, Value.int IntKind.i64 d.op, Value.int IntKind.i64 d.arg, Value.int IntKind.i64 d.data, Value.int IntKind.i64 d.beg, Value.int IntKind.i64 d.fin, Value.int IntKind.i64 d.pt, Value.int IntKind.i64 d.ak, Value.int IntKind.i64 d.av], Value.agg #[Value.int IntKind.i64 c.th, Value.int IntKind.i64 c.op, Value.int IntKind.i64 c.arg, Value.int IntKind.i64 c.data, Value.int IntKind.i64 c.beg, Value.int IntKind.i64 c.fin, Value.int IntKind.i64 c.pt, Value.int IntKind.i64 c.ak, Value.int IntKind.i64 c.av], Value.bool true, yy 0, yy 1, yy 2, yy 3, yy 4, yy 5, yy 6, yy 7, yy 8, yy 9, yy 10, yy 11, yy 12, u101, u102, undef], defers := [] }) (fun D yy w => (D 0 = true → yy 0 = Value.pointer (some ⟨bs, 0, none⟩)) ∧ (D 1 = true → yy 1 = Value.int .i64 (i2 : Int)) ∧ (D 2 = true → yy 2 = Value.pointer (some ⟨bs, 0, none⟩)) ∧ (D 3 = true → yy 3 = Value.int .i64 (i2 : Int)) ∧ (D 4 = true → yy 4 = Value.pointer (some ⟨bs, 0, none⟩)) ∧ (D 5 = true → yy 5 = Value.pointer (some ⟨bs, 2, none⟩)) ∧ (D 6 = true → yy 6 = Value.pointer (some ⟨bs, 2 + i2, none⟩)) ∧ (D 7 = true → yy 7 = Value.int .u64 ((ah3 i2 : Nat) : Int)) ∧ (D 8 = true → yy 8 = Value.int .i64 (k3 : Int)) ∧ (D 9 = true → yy 9 = Value.int .u64 ((ah3 i2 ||| 2 ^ k3 : Nat) : Int)) ∧ (D 10 = true → yy 10 = Value.pointer (some ⟨bs, 0, none⟩)) ∧ (D 11 = true → yy 11 = Value.pointer (some ⟨bs, 2, none⟩)) ∧ (D 12 = true → yy 12 = Value.pointer (some ⟨bs, 2 + i2, none⟩)) ∧ (D 13 = false → w = w9.drew) ∧ (D 13 = true → w = ((w9.setCell ⟨bs, 2 + i2, none⟩ (.int .u64 ((ah3 i2 ||| 2 ^ k3 : Nat) : Int))).drew))) rfl (fun j => if j = 0 then u88 else if j = 1 then u89 else if j = 2 then u90 else if j = 3 then u91 else if j = 4 then u92 else if j = 5 then u93 else if j = 6 then u94 else if j = 7 then u95 else if j = 8 then u96 else if j = 9 then u97 else if j = 10 then u98 else if j = 11 then u99 else if j = 12 then u100 else undef) ⟨fun h => by simp at h, fun h => by simp at h, fun h => by simp at h, fun h => by simp at h, fun h => by simp at h, fun h => by simp at h, fun h => by simp at h, fun h => by simp at h, fun h => by simp at h, fun h => by simp at h, fun h => by simp at h, fun h => by simp at h, fun h => by simp at h, fun _ => rfl, fun h => by simp at h⟩ ?hs ?he
          case he =>
           rintro yy w ⟨_, _, _, _, _, _, _, _, _, _, _, _, _, _, n1⟩
           have hww := n1 (by decide)
           clear n1
           dsimp only
           have NF := Mr.hid ((M9.out.setA (i := i2) (by omega) (ah3 i2 ||| 2 ^ k3)).below (Below.refl _ _).drew)
           have hbF : (w9.setCell ⟨bs, 2 + i2, none⟩ (gv (ah3 i2 ||| 2 ^ k3))).drew.heap[b8]? = some (cqO c) := by
            show (w9.setCell ⟨bs, 2 + i2, none⟩ (gv (ah3 i2 ||| 2 ^ k3))).heap[b8]? = some (cqO c)
            rw [heap_setCell_other _ _ _ _ (show b8 ≠ bs from fun e => by subst e; have h1 := M9.out.sb; rw [hb9] at h1; simp [cqO, sbO] at h1)]
            exact hb9
           unfold gv at NF hbF
           rw [← hww] at NF hbF
           clear hww M9 hb9 CI cy22 cf22
           go_wp2
           go_roundg (gk - 1)
           case measure => omega
           case rel =>
            refine ⟨k3 + 1, _, by simp, by omega, NF.out, fun j hj => ?_, hbF⟩
            by_cases e2 : j = i2
            ·subst e2
             rw [if_pos rfl, if_neg (by omega), if_pos rfl, hai.out, mks, hdd, hcd, hahd, if_pos rfl]
            ·rw [if_neg e2, hah3 j hj, if_neg e2]
             by_cases e1 : j < i2
             ·rw [if_pos e1, if_pos e1]
             ·rw [if_neg e1, if_neg e1, if_neg e2]
          case hs =>
           intro ii hi D yy w hDi hdep hcl hI K hK
           have hi' : ii < 14 := hi
           clear hi
           obtain rfl | rfl | rfl | rfl | rfl | rfl | rfl | rfl | rfl | rfl | rfl | rfl | rfl | rfl : ii = 0 ∨ ii = 1 ∨ ii = 2 ∨ ii = 3 ∨ ii = 4 ∨ ii = 5 ∨ ii = 6 ∨ ii = 7 ∨ ii = 8 ∨ ii = 9 ∨ ii = 10 ∨ ii = 11 ∨ ii = 12 ∨ ii = 13 := by omega
           ·obtain ⟨e0, e1, e2, e3, e4, e5, e6, e7, e8, e9, e10, e11, e12, n0, n1⟩ := hI
            have d13 : D 13 = false := by
             cases h : D 13 with
             | false => rfl
             | true =>
              have q0 := hcl 13 h 12 (by decide)
              have q1 := hcl 12 q0 11 (by decide)
              have q2 := hcl 11 q1 10 (by decide)
              have q3 := hcl 10 q2 0 (by decide)
              rw [hDi] at q3; cases q3
            have hww := n0 d13
            subst hww
            refine wpOpIn_step rfl (fun K' hK' => ?_)
            try simp only [Act.put, LA, LB, LC, LD, LE, LF]
            rw [if_pos (by kernel_rfl)]
            refine ⟨fun _ _ => trivial, ?_⟩
            go_simp
            have hq' := hK (Value.pointer (some ⟨bs, 0, none⟩)) w9.drew ⟨(fun _ => by simp [upd]), (by simpa [upb, upd] using e1), (by simpa [upb, upd] using e2), (by simpa [upb, upd] using e3), (by simpa [upb, upd] using e4), (by simpa [upb, upd] using e5), (by simpa [upb, upd] using e6), (by simpa [upb, upd] using e7), (by simpa [upb, upd] using e8), (by simpa [upb, upd] using e9), (by simpa [upb, upd] using e10), (by simpa [upb, upd] using e11), (by simpa [upb, upd] using e12), (fun _ => rfl), (fun h => by simp [upb, d13] at h)⟩
            refine hK' _ _ ?_
            simpa [upd] using hq'
           ·obtain ⟨e0, e1, e2, e3, e4, e5, e6, e7, e8, e9, e10, e11, e12, n0, n1⟩ := hI
            have d13 : D 13 = false := by
             cases h : D 13 with
             | false => rfl
             | true =>
              have q0 := hcl 13 h 12 (by decide)
              have q1 := hcl 12 q0 1 (by decide)
              rw [hDi] at q1; cases q1
            have hww := n0 d13
            subst hww
            refine wpOpIn_step rfl (fun K' hK' => ?_)
            try simp only [Act.put, LA, LB, LC, LD, LE, LF]
            rw [if_pos (by kernel_rfl)]
            refine ⟨fun _ _ => trivial, ?_⟩
            go_simp
            have hq' := hK (Value.int .i64 (i2 : Int)) w9.drew ⟨(by simpa [upb, upd] using e0), (fun _ => by simp [upd]), (by simpa [upb, upd] using e2), (by simpa [upb, upd] using e3), (by simpa [upb, upd] using e4), (by simpa [upb, upd] using e5), (by simpa [upb, upd] using e6), (by simpa [upb, upd] using e7), (by simpa [upb, upd] using e8), (by simpa [upb, upd] using e9), (by simpa [upb, upd] using e10), (by simpa [upb, upd] using e11), (by simpa [upb, upd] using e12), (fun _ => rfl), (fun h => by simp [upb, d13] at h)⟩
            refine hK' _ _ ?_
            simpa [upd] using hq'
           ·obtain ⟨e0, e1, e2, e3, e4, e5, e6, e7, e8, e9, e10, e11, e12, n0, n1⟩ := hI
            have d13 : D 13 = false := by
             cases h : D 13 with
             | false => rfl
             | true =>
              have q0 := hcl 13 h 9 (by decide)
              have q1 := hcl 9 q0 7 (by decide)
              have q2 := hcl 7 q1 6 (by decide)
              have q3 := hcl 6 q2 5 (by decide)
              have q4 := hcl 5 q3 4 (by decide)
              have q5 := hcl 4 q4 2 (by decide)
              rw [hDi] at q5; cases q5
            have hww := n0 d13
            subst hww
            refine wpOpIn_step rfl (fun K' hK' => ?_)
            try simp only [Act.put, LA, LB, LC, LD, LE, LF]
            rw [if_pos (by kernel_rfl)]
            refine ⟨fun _ _ => trivial, ?_⟩
            go_simp
            have hq' := hK (Value.pointer (some ⟨bs, 0, none⟩)) w9.drew ⟨(by simpa [upb, upd] using e0), (by simpa [upb, upd] using e1), (fun _ => by simp [upd]), (by simpa [upb, upd] using e3), (by simpa [upb, upd] using e4), (by simpa [upb, upd] using e5), (by simpa [upb, upd] using e6), (by simpa [upb, upd] using e7), (by simpa [upb, upd] using e8), (by simpa [upb, upd] using e9), (by simpa [upb, upd] using e10), (by simpa [upb, upd] using e11), (by simpa [upb, upd] using e12), (fun _ => rfl), (fun h => by simp [upb, d13] at h)⟩
            refine hK' _ _ ?_
            simpa [upd] using hq'
           ·obtain ⟨e0, e1, e2, e3, e4, e5, e6, e7, e8, e9, e10, e11, e12, n0, n1⟩ := hI
            have d13 : D 13 = false := by
             cases h : D 13 with
             | false => rfl
             | true =>
              have q0 := hcl 13 h 9 (by decide)
              have q1 := hcl 9 q0 7 (by decide)
              have q2 := hcl 7 q1 6 (by decide)
              have q3 := hcl 6 q2 3 (by decide)
              rw [hDi] at q3; cases q3
            have hww := n0 d13
            subst hww
            refine wpOpIn_step rfl (fun K' hK' => ?_)
            try simp only [Act.put, LA, LB, LC, LD, LE, LF]
            rw [if_pos (by kernel_rfl)]
            refine ⟨fun _ _ => trivial, ?_⟩
            go_simp
            have hq' := hK (Value.int .i64 (i2 : Int)) w9.drew ⟨(by simpa [upb, upd] using e0), (by simpa [upb, upd] using e1), (by simpa [upb, upd] using e2), (fun _ => by simp [upd]), (by simpa [upb, upd] using e4), (by simpa [upb, upd] using e5), (by simpa [upb, upd] using e6), (by simpa [upb, upd] using e7), (by simpa [upb, upd] using e8), (by simpa [upb, upd] using e9), (by simpa [upb, upd] using e10), (by simpa [upb, upd] using e11), (by simpa [upb, upd] using e12), (fun _ => rfl), (fun h => by simp [upb, d13] at h)⟩
            refine hK' _ _ ?_
            simpa [upd] using hq'
           ·obtain ⟨e0, e1, e2, e3, e4, e5, e6, e7, e8, e9, e10, e11, e12, n0, n1⟩ := hI
            have d13 : D 13 = false := by
             cases h : D 13 with
             | false => rfl
             | true =>
              have q0 := hcl 13 h 9 (by decide)
              have q1 := hcl 9 q0 7 (by decide)
              have q2 := hcl 7 q1 6 (by decide)
              have q3 := hcl 6 q2 5 (by decide)
              have q4 := hcl 5 q3 4 (by decide)
              rw [hDi] at q4; cases q4
            have hww := n0 d13
            subst hww
            have v2 := e2 (hdep 2 (by decide))
            refine wpOpIn_step rfl (fun K' hK' => ?_)
            try simp only [Act.put, LA, LB, LC, LD, LE, LF]
            rw [if_pos (by kernel_rfl)]
            refine ⟨fun _ _ => trivial, ?_⟩
            go_simp
            have hq' := hK (Value.pointer (some ⟨bs, 0, none⟩)) w9.drew ⟨(by simpa [upb, upd] using e0), (by simpa [upb, upd] using e1), (by simpa [upb, upd] using e2), (by simpa [upb, upd] using e3), (fun _ => by simp [upd]), (by simpa [upb, upd] using e5), (by simpa [upb, upd] using e6), (by simpa [upb, upd] using e7), (by simpa [upb, upd] using e8), (by simpa [upb, upd] using e9), (by simpa [upb, upd] using e10), (by simpa [upb, upd] using e11), (by simpa [upb, upd] using e12), (fun _ => rfl), (fun h => by simp [upb, d13] at h)⟩
            refine hK' _ _ ?_
            simpa [upd, v2] using hq'
           ·obtain ⟨e0, e1, e2, e3, e4, e5, e6, e7, e8, e9, e10, e11, e12, n0, n1⟩ := hI
            have d13 : D 13 = false := by
             cases h : D 13 with
             | false => rfl
             | true =>
              have q0 := hcl 13 h 9 (by decide)
              have q1 := hcl 9 q0 7 (by decide)
              have q2 := hcl 7 q1 6 (by decide)
              have q3 := hcl 6 q2 5 (by decide)
              rw [hDi] at q3; cases q3
            have hww := n0 d13
            subst hww
            have v4 := e4 (hdep 4 (by decide))
            refine wpOpIn_step rfl (fun K' hK' => ?_)
            try simp only [Act.put, LA, LB, LC, LD, LE, LF]
            rw [if_pos (by kernel_rfl)]
            refine ⟨fun _ _ => trivial, ?_⟩
            go_simp
            have hq' := hK (Value.pointer (some ⟨bs, 2, none⟩)) w9.drew ⟨(by simpa [upb, upd] using e0), (by simpa [upb, upd] using e1), (by simpa [upb, upd] using e2), (by simpa [upb, upd] using e3), (by simpa [upb, upd] using e4), (fun _ => by simp [upd]), (by simpa [upb, upd] using e6), (by simpa [upb, upd] using e7), (by simpa [upb, upd] using e8), (by simpa [upb, upd] using e9), (by simpa [upb, upd] using e10), (by simpa [upb, upd] using e11), (by simpa [upb, upd] using e12), (fun _ => rfl), (fun h => by simp [upb, d13] at h)⟩
            refine hK' _ _ ?_
            simpa [upd, v4] using hq'
           ·obtain ⟨e0, e1, e2, e3, e4, e5, e6, e7, e8, e9, e10, e11, e12, n0, n1⟩ := hI
            have d13 : D 13 = false := by
             cases h : D 13 with
             | false => rfl
             | true =>
              have q0 := hcl 13 h 9 (by decide)
              have q1 := hcl 9 q0 7 (by decide)
              have q2 := hcl 7 q1 6 (by decide)
              rw [hDi] at q2; cases q2
            have hww := n0 d13
            subst hww
            have v5 := e5 (hdep 5 (by decide))
            have v3 := e3 (hdep 3 (by decide))
            refine wpOpIn_step rfl (fun K' hK' => ?_)
            try simp only [Act.put, LA, LB, LC, LD, LE, LF]
            rw [if_pos (by kernel_rfl)]
            refine ⟨fun _ _ => trivial, ?_⟩
            go_simp
            have hq' := hK (Value.pointer (some ⟨bs, 2 + i2, none⟩)) w9.drew ⟨(by simpa [upb, upd] using e0), (by simpa [upb, upd] using e1), (by simpa [upb, upd] using e2), (by simpa [upb, upd] using e3), (by simpa [upb, upd] using e4), (by simpa [upb, upd] using e5), (fun _ => by simp [upd]), (by simpa [upb, upd] using e7), (by simpa [upb, upd] using e8), (by simpa [upb, upd] using e9), (by simpa [upb, upd] using e10), (by simpa [upb, upd] using e11), (by simpa [upb, upd] using e12), (fun _ => rfl), (fun h => by simp [upb, d13] at h)⟩
            refine hK' _ _ ?_
            simpa [upd, v5, v3] using hq'
           ·obtain ⟨e0, e1, e2, e3, e4, e5, e6, e7, e8, e9, e10, e11, e12, n0, n1⟩ := hI
            have d13 : D 13 = false := by
             cases h : D 13 with
             | false => rfl
             | true =>
              have q0 := hcl 13 h 9 (by decide)
              have q1 := hcl 9 q0 7 (by decide)
              rw [hDi] at q1; cases q1
            have hww := n0 d13
            subst hww
            have v6 := e6 (hdep 6 (by decide))
            refine wpOpIn_step rfl (fun K' hK' => ?_)
            try simp only [Act.put, LA, LB, LC, LD, LE, LF]
            rw [if_pos (by kernel_rfl)]
            refine ⟨fun _ _ => trivial, ?_⟩
            go_simp
            have hq' := hK (Value.int .u64 ((ah3 i2 : Nat) : Int)) w9.drew ⟨(by simpa [upb, upd] using e0), (by simpa [upb, upd] using e1), (by simpa [upb, upd] using e2), (by simpa [upb, upd] using e3), (by simpa [upb, upd] using e4), (by simpa [upb, upd] using e5), (by simpa [upb, upd] using e6), (fun _ => by simp [upd]), (by simpa [upb, upd] using e8), (by simpa [upb, upd] using e9), (by simpa [upb, upd] using e10), (by simpa [upb, upd] using e11), (by simpa [upb, upd] using e12), (fun _ => rfl), (fun h => by simp [upb, d13] at h)⟩
            refine hK' _ _ ?_
            simpa [upd, v6] using hq'
           ·obtain ⟨e0, e1, e2, e3, e4, e5, e6, e7, e8, e9, e10, e11, e12, n0, n1⟩ := hI
            have d13 : D 13 = false := by
             cases h : D 13 with
             | false => rfl
             | true =>
              have q0 := hcl 13 h 9 (by decide)
              have q1 := hcl 9 q0 8 (by decide)
              rw [hDi] at q1; cases q1
            have hww := n0 d13
            subst hww
            refine wpOpIn_step rfl (fun K' hK' => ?_)
            try simp only [Act.put, LA, LB, LC, LD, LE, LF]
            rw [if_pos (by kernel_rfl)]
            refine ⟨fun _ _ => trivial, ?_⟩
            go_simp
            have hq' := hK (Value.int .i64 (k3 : Int)) w9.drew ⟨(by simpa [upb, upd] using e0), (by simpa [upb, upd] using e1), (by simpa [upb, upd] using e2), (by simpa [upb, upd] using e3), (by simpa [upb, upd] using e4), (by simpa [upb, upd] using e5), (by simpa [upb, upd] using e6), (by simpa [upb, upd] using e7), (fun _ => by simp [upd]), (by simpa [upb, upd] using e9), (by simpa [upb, upd] using e10), (by simpa [upb, upd] using e11), (by simpa [upb, upd] using e12), (fun _ => rfl), (fun h => by simp [upb, d13] at h)⟩
            refine hK' _ _ ?_
            simpa [upd] using hq'
           ·obtain ⟨e0, e1, e2, e3, e4, e5, e6, e7, e8, e9, e10, e11, e12, n0, n1⟩ := hI
            have d13 : D 13 = false := by
             cases h : D 13 with
             | false => rfl
             | true =>
              have q0 := hcl 13 h 9 (by decide)
              rw [hDi] at q0; cases q0
            have hww := n0 d13
            subst hww
            have v7 := e7 (hdep 7 (by decide))
            have v8 := e8 (hdep 8 (by decide))
            refine wpOpIn_step rfl (fun K' hK' => ?_)
            try simp only [Act.put, LA, LB, LC, LD, LE, LF]
            rw [if_pos (by kernel_rfl)]
            refine ⟨fun _ _ => trivial, ?_⟩
            go_simp
            refine ((callsIn_wide.2 (CI _).out).mono ?_)
            rintro e w' ⟨rfl, hwe⟩
            subst hwe
            have hq' := hK (Value.int .u64 ((ah3 i2 ||| 2 ^ k3 : Nat) : Int)) w9.drew ⟨(by simpa [upb, upd] using e0), (by simpa [upb, upd] using e1), (by simpa [upb, upd] using e2), (by simpa [upb, upd] using e3), (by simpa [upb, upd] using e4), (by simpa [upb, upd] using e5), (by simpa [upb, upd] using e6), (by simpa [upb, upd] using e7), (by simpa [upb, upd] using e8), (fun _ => by simp [upd]), (by simpa [upb, upd] using e10), (by simpa [upb, upd] using e11), (by simpa [upb, upd] using e12), (fun _ => rfl), (fun h => by simp [upb, d13] at h)⟩
            refine hK' _ _ ?_
            simpa [upd, v7, v8] using hq'
           ·obtain ⟨e0, e1, e2, e3, e4, e5, e6, e7, e8, e9, e10, e11, e12, n0, n1⟩ := hI
            have d13 : D 13 = false := by
             cases h : D 13 with
             | false => rfl
             | true =>
              have q0 := hcl 13 h 12 (by decide)
              have q1 := hcl 12 q0 11 (by decide)
              have q2 := hcl 11 q1 10 (by decide)
              rw [hDi] at q2; cases q2
            have hww := n0 d13
            subst hww
            have v0 := e0 (hdep 0 (by decide))
            refine wpOpIn_step rfl (fun K' hK' => ?_)
            try simp only [Act.put, LA, LB, LC, LD, LE, LF]
            rw [if_pos (by kernel_rfl)]
            refine ⟨fun _ _ => trivial, ?_⟩
            go_simp
            have hq' := hK (Value.pointer (some ⟨bs, 0, none⟩)) w9.drew ⟨(by simpa [upb, upd] using e0), (by simpa [upb, upd] using e1), (by simpa [upb, upd] using e2), (by simpa [upb, upd] using e3), (by simpa [upb, upd] using e4), (by simpa [upb, upd] using e5), (by simpa [upb, upd] using e6), (by simpa [upb, upd] using e7), (by simpa [upb, upd] using e8), (by simpa [upb, upd] using e9), (fun _ => by simp [upd]), (by simpa [upb, upd] using e11), (by simpa [upb, upd] using e12), (fun _ => rfl), (fun h => by simp [upb, d13] at h)⟩
            refine hK' _ _ ?_
            simpa [upd, v0] using hq'
           ·obtain ⟨e0, e1, e2, e3, e4, e5, e6, e7, e8, e9, e10, e11, e12, n0, n1⟩ := hI
            have d13 : D 13 = false := by
             cases h : D 13 with
             | false => rfl
             | true =>
              have q0 := hcl 13 h 12 (by decide)
              have q1 := hcl 12 q0 11 (by decide)
              rw [hDi] at q1; cases q1
            have hww := n0 d13
            subst hww
            have v10 := e10 (hdep 10 (by decide))
            refine wpOpIn_step rfl (fun K' hK' => ?_)
            try simp only [Act.put, LA, LB, LC, LD, LE, LF]
            rw [if_pos (by kernel_rfl)]
            refine ⟨fun _ _ => trivial, ?_⟩
            go_simp
            have hq' := hK (Value.pointer (some ⟨bs, 2, none⟩)) w9.drew ⟨(by simpa [upb, upd] using e0), (by simpa [upb, upd] using e1), (by simpa [upb, upd] using e2), (by simpa [upb, upd] using e3), (by simpa [upb, upd] using e4), (by simpa [upb, upd] using e5), (by simpa [upb, upd] using e6), (by simpa [upb, upd] using e7), (by simpa [upb, upd] using e8), (by simpa [upb, upd] using e9), (by simpa [upb, upd] using e10), (fun _ => by simp [upd]), (by simpa [upb, upd] using e12), (fun _ => rfl), (fun h => by simp [upb, d13] at h)⟩
            refine hK' _ _ ?_
            simpa [upd, v10] using hq'
           ·obtain ⟨e0, e1, e2, e3, e4, e5, e6, e7, e8, e9, e10, e11, e12, n0, n1⟩ := hI
            have d13 : D 13 = false := by
             cases h : D 13 with
             | false => rfl
             | true =>
              have q0 := hcl 13 h 12 (by decide)
              rw [hDi] at q0; cases q0
            have hww := n0 d13
            subst hww
            have v11 := e11 (hdep 11 (by decide))
            have v1 := e1 (hdep 1 (by decide))
            refine wpOpIn_step rfl (fun K' hK' => ?_)
            try simp only [Act.put, LA, LB, LC, LD, LE, LF]
            rw [if_pos (by kernel_rfl)]
            refine ⟨fun _ _ => trivial, ?_⟩
            go_simp
            have hq' := hK (Value.pointer (some ⟨bs, 2 + i2, none⟩)) w9.drew ⟨(by simpa [upb, upd] using e0), (by simpa [upb, upd] using e1), (by simpa [upb, upd] using e2), (by simpa [upb, upd] using e3), (by simpa [upb, upd] using e4), (by simpa [upb, upd] using e5), (by simpa [upb, upd] using e6), (by simpa [upb, upd] using e7), (by simpa [upb, upd] using e8), (by simpa [upb, upd] using e9), (by simpa [upb, upd] using e10), (by simpa [upb, upd] using e11), (fun _ => by simp [upd]), (fun _ => rfl), (fun h => by simp [upb, d13] at h)⟩
            refine hK' _ _ ?_
            simpa [upd, v11, v1] using hq'
           ·obtain ⟨e0, e1, e2, e3, e4, e5, e6, e7, e8, e9, e10, e11, e12, n0, n1⟩ := hI
            have hww := n0 hDi
            subst hww
            have v12 := e12 (hdep 12 (by decide))
            have v9 := e9 (hdep 9 (by decide))
            refine wpOpIn_step rfl (fun K' hK' => ?_)
            try simp only [Act.put, LA, LB, LC, LD, LE, LF]
            rw [if_pos (by kernel_rfl)]
            refine ⟨fun _ _ => trivial, ?_⟩
            go_simp
            have hq' := hK (undef) ((w9.setCell ⟨bs, 2 + i2, none⟩ (.int .u64 ((ah3 i2 ||| 2 ^ k3 : Nat) : Int))).drew) ⟨(by simpa [upb, upd] using e0), (by simpa [upb, upd] using e1), (by simpa [upb, upd] using e2), (by simpa [upb, upd] using e3), (by simpa [upb, upd] using e4), (by simpa [upb, upd] using e5), (by simpa [upb, upd] using e6), (by simpa [upb, upd] using e7), (by simpa [upb, upd] using e8), (by simpa [upb, upd] using e9), (by simpa [upb, upd] using e10), (by simpa [upb, upd] using e11), (by simpa [upb, upd] using e12), (fun h => by simp [upb] at h), (fun _ => rfl)⟩
            refine hK' _ _ ?_
            simpa [upd, v12, v9] using hq'
        ·obtain rfl : k3 = sc.length := by omega
         have hw2 : IntKind.i64.wrap ((i2 : Int) + 1) = (i2 : Int) + 1 := i64x _ (by omega) (by omega)
         go_wp2
         go_roundg (g2 - 1)
         case measure => omega
         case rel =>
          refine ⟨i2 + 1, ah3, by simp, by omega, hA3, fun j hj => ?_⟩
          rw [hah3 j hj]
          by_cases e1 : j < i2
          ·rw [if_pos e1, if_pos (by omega)]
          ·by_cases e2 : j = i2
           ·subst e2
            rw [if_neg e1, if_pos rfl, if_pos (by omega)]
            rfl
           ·rw [if_neg e1, if_neg e2, if_neg (by omega)]
     ·obtain rfl : i2 = sc.length := by omega
      have hA2 : Nw W bs bm (.slice av sc.length cv) vn sc nm (ahM sc) (enM sc) wr := by
       refine ⟨hA.be, ?_, hA.mp, hA.cl, hA.nu, hA.lb⟩
       have hj : ∀ j, j < 8 → ah j = ahM sc j := fun j hj => by
        rw [hah j hj]
        split
        ·rfl
        ·exact (ahM_out hfits (by omega)).symm
       rw [hA.sb]
       unfold sbO
       rw [hj 0 (by omega), hj 1 (by omega), hj 2 (by omega), hj 3 (by omega), hj 4 (by omega), hj 5 (by omega), hj 6 (by omega), hj 7 (by omega)]
       rfl
      go_wp2
      refine bodyPost_ret (v := .tuple #[.pointer (some ⟨bs, 0, none⟩), .int .i64 0]) (by simp [results, Tryz.results15, go_sem]) rfl ?_
      refine ⟨hA2.be, .inr (.inr ⟨hmb, by rw [hsc.out]; exact hl2, bs, bm, .slice av sc.length cv, vn, rfl, ?_⟩)⟩
      rw [hsc.out, hnm.out]
      exact hA2
end Go.Proofs.YtnbibkohgppjnaaGreat.Ws
