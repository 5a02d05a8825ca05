/-
  MachineCounters: the walk.
-/
import Derived.Test.YtphfpnmngcepjaaMacCntP
import Derived.Test.YtphfpnmngcepjaaOpenScript
import Derived.BigQuiet
import Derived.Deep.DeepCutAuto
import Derived.Deep.LoopGhost
namespace Go.Proofs.Ytphfpnmngcepjaa.Ma
open Go.RowKit Go.Shelf Mr Me
theorem run_append_nils (w : World) : (Builtin.append_ #[28, 28] 28 #[.slice none 0 0, .slice none 0 0]).run Try.prog w = .ok (.slice none 0 0) w := by
  obtain ⟨i0, hi0, hz0, hz1, hz2⟩ := info_parts info_u64
  simp [Builtin.append_, run_underlying Try.underlying28, sizeOf, typeInfo, hi0, Builtin.lenOf, Builtin.firstCells]
theorem wpList_append_nils {w : World} {ops : Array Oper} {rest : List Oper} {o : Oper} {a : Act} {Q : Exit → Act → World → Prop} (hgd : o.guard = none) (s x : Operand)
    (ho : o.op = .call { callee := .builtin .append, args := #[s, x], argTypes := #[28, 28] }) (hty : o.type = 28) (hs : a.eval s = .slice none 0 0) (hx : a.eval x = .slice none 0 0)
    (h : wpList Try.prog ops Q rest (a.put o.dst (.slice none 0 0)) w) : wpList Try.prog ops Q (o :: rest) a w :=
  wpList_plain hgd fun _ hK => by
    have hr := run_append_nils w
    unfold Oper.wp execOp
    simp only [ho, hty, resolve, invoke, builtin, Sem.run_bind, Sem.run_pure, Result.andThen_ok, List.map_toArray, List.map_cons, List.map_nil, hs, hx, hr]
    exact hK _ _ h
/-- What the laws' loops keep: the script's box, the run's box, the run's rows. -/
structure Kp (w W : World) (B : Nat) (x y z v1 v2 v4 : Value) (P : Pm) : Prop where
  bel : Below w.heap.size w W
  s0 : W.heap[w.heap.size]? = some (.cells #[x, y, z] 45 (0, 0))
  lt : w.heap.size < B
  r0 : W.heap[B]? = some (.cells #[v1, v2, .slice none 0 0, v4] 41 (0, 0))
  h1 : Has W (fun k => w.heap.size < k ∧ k < B) 52 9 v1 P.cls.length (clc P.cls)
  h2 : Has W (fun k => w.heap.size < k ∧ k < B) 57 7 v2 P.lg.length (lgc P.lg)
  h4 : Has W (fun k => w.heap.size < k ∧ k < B) 27 1 v4 P.ws.length (wrd P.ws)
theorem Kp.below {w W W' : World} {B : Nat} {x y z v1 v2 v4 : Value} {P : Pm} (h : Kp w W B x y z v1 v2 v4 P) (hB : Below W.heap.size W W') : Kp w W' B x y z v1 v2 v4 P :=
  have g : ∀ k o, W.heap[k]? = some o → W'.heap[k]? = some o := fun k _ hk => (hB.block k (Array.getElem?_eq_some_iff.1 hk).1).trans hk
  ⟨h.bel.trans (hB.mono h.bel.size), g _ _ h.s0, h.lt, g _ _ h.r0, h.h1.below hB, h.h2.below hB, h.h4.below hB⟩
/-- A write above B. -/
theorem Kp.set {w W : World} {B : Nat} {x y z v1 v2 v4 : Value} {P : Pm} (h : Kp w W B x y z v1 v2 v4 P) (p : Addr) (hp : B < p.block) (u : Value) : Kp w (W.setCell p u) B x y z v1 v2 v4 P :=
  have hlt := h.lt
  have hh : ∀ {e size m : Nat} {v : Value} {xs : List Value}, Has W (fun k => w.heap.size < k ∧ k < B) e size v m xs → Has (W.setCell p u) (fun k => w.heap.size < k ∧ k < B) e size v m xs := fun hv => hv.setCell p u (fun e => by have := (hv.lt _ e).1; omega)
  ⟨h.bel.setCell (by omega) u, by rw [Below.heap_setCell _ _ _ _ (by omega)]; exact h.s0, h.lt, by rw [Below.heap_setCell _ _ _ _ (by omega)]; exact h.r0, hh h.h1, hh h.h2, hh h.h4⟩
theorem has_drewN {W : World} {S : Nat → Prop} {e size n : Nat} {v : Value} {xs : List Value} (h : Has W S e size v n xs) (m : Nat) : Has (W.drewN m) S e size v n xs := h.kept (fun _ _ => rfl) (fun k hk => (h.lt k hk).1)
theorem Kp.drewN {w W : World} {B : Nat} {x y z v1 v2 v4 : Value} {P : Pm} (h : Kp w W B x y z v1 v2 v4 P) (m : Nat) : Kp w (W.drewN m) B x y z v1 v2 v4 P :=
  ⟨⟨h.bel.os, h.bel.tape, h.bel.output, h.bel.size, h.bel.block⟩, h.s0, h.lt, h.r0, h.h1, h.h2, h.h4⟩
theorem Kp.cells {w W : World} {B : Nat} {x y z v1 v2 v4 : Value} {P : Pm} (h : Kp w W B x y z v1 v2 v4 P) : (W.cell? ⟨w.heap.size, 0, none⟩ = some x ∧ W.cell? ⟨w.heap.size, 1, none⟩ = some y ∧ W.cell? ⟨w.heap.size, 2, none⟩ = some z) ∧ (W.cell? ⟨B, 0, none⟩ = some v1 ∧ W.cell? ⟨B, 1, none⟩ = some v2 ∧ W.cell? ⟨B, 2, none⟩ = some (.slice none 0 0) ∧ W.cell? ⟨B, 3, none⟩ = some v4) := by
  refine ⟨⟨?_, ?_, ?_⟩, ?_, ?_, ?_, ?_⟩ <;> simp [World.cell?, h.s0, h.r0]
set_option maxRecDepth 100000 in
set_option maxHeartbeats 2000000 in
theorem counters_walk (w : World) (th : Int) (a : Option Addr) (n cap : Nat) (am : Option Addr) (nm cm : Nat) (hn : n ≤ cap) (hnm : nm ≤ cm) (ws : List Int) (ms : List Mv) (hs : Src w a n cap ws) (hm : MvAt w am nm ms) :
    Calls Try.prog 4 #[.agg #[.int .i64 th, .slice a n cap, .slice am nm cm]] w fun e w' => e = .returned (.bool true) ∧ Below w.heap.size w w' := by
  have PL := fun (W : World) (hB : Below w.heap.size w W) => play_any W th a n cap am nm cm hn hnm ws ms (hs.below hB) (hm.below hB)
  obtain ⟨i0, hi0, hz0, hz1, hz2⟩ := info_parts info_u64
  have hs' := src_take hs 8192
  have hmt := (hm.take 65536).1
  unfold Playd at PL
  generalize hQ : (Pm.new (fitT th) (ws.take 8192)).play (ms.take 65536) = Q at PL
  generalize hft : fitT th = ft at PL hQ
  generalize hm1 : min n 8192 = m1 at PL hs'
  generalize hm2 : min nm 65536 = m2 at PL hmt
  generalize ws.take 8192 = wt at *
  generalize ms.take 65536 = mt at *
  replace hQ := Mr.hid hQ
  replace hft := Mr.hid hft
  replace hm1 := Mr.hid hm1
  replace hm2 := Mr.hid hm2
  replace hs' := Mr.hid hs'
  replace hmt := Mr.hid hmt
  clear hs hm
  have hb0 : ∀ (o : Obj), (w.alloc o).heap[w.heap.size]? = some o := fun o => heap_alloc_new w o
  have hB0 := fun o => (Below.refl w.heap.size w).alloc (Nat.le_refl _) o
  go_enter Try.func4, Try.ntmps4
  go_upto_region 4 with (first
    | (go_at_call 14; refine (PL _ (hB0 _)).mono ?_; clear PL; rintro e w1 ⟨v1, v2, v4, rfl, hv1, hv2, hv4, hB1⟩; have hs1 := (hB1.block w.heap.size (by simp)).trans (hb0 _); have c0 : w1.cell? ⟨w.heap.size, 0, none⟩ = some (.int .i64 th) := (by simp [World.cell?, hs1]); have c1 : w1.cell? ⟨w.heap.size, 1, none⟩ = some (.slice a n cap) := (by simp [World.cell?, hs1]); have c2 : w1.cell? ⟨w.heap.size, 2, none⟩ = some (.slice am nm cm) := (by simp [World.cell?, hs1]); have c3 : ∀ j, w1.frozen? ⟨w.heap.size, j, none⟩ = false := (fun j => by simp [World.frozen?, hs1]); have lt1 : w.heap.size < w1.heap.size := (Array.getElem?_eq_some_iff.1 hs1).1; have Bw1 : Below w.heap.size w w1 := (hB0 _).trans (hB1.mono (by simp)); simp only [World.size_alloc] at hv1 hv2 hv4; replace hs1 := Mr.hid hs1; clear hB1; replace Bw1 := Mr.hid Bw1; obtain ⟨p1, q1, rfl, _⟩ := hv1.form; obtain ⟨p2, q2, rfl, _⟩ := hv2.form; obtain ⟨p4, q4, rfl, _⟩ := hv4.form; replace hv1 := Mr.hid hv1; replace hv2 := Mr.hid hv2; replace hv4 := Mr.hid hv4)
    | fail)
  obtain ⟨W2, hW2⟩ : ∃ W2, (((w1.setCell ⟨w.heap.size, 0, none⟩ (.int .i64 (ft : Int))).setCell ⟨w.heap.size, 1, none⟩ (.slice a m1 cap)).setCell ⟨w.heap.size, 2, none⟩ (.slice am m2 cm)).alloc (.cells #[.slice p1 Q.cls.length q1, .slice p2 Q.lg.length q2, .slice none 0 0, .slice p4 Q.ws.length q4] 41) = W2 := ⟨_, rfl⟩
  have K2 : Kp w W2 w1.heap.size (.int .i64 (ft : Int)) (.slice a m1 cap) (.slice am m2 cm) (.slice p1 Q.cls.length q1) (.slice p2 Q.lg.length q2) (.slice p4 Q.ws.length q4) Q := by
    have kh : ∀ {e size m : Nat} {v : Value} {xs : List Value}, Has w1 (fun k => w.heap.size + 1 ≤ k) e size v m xs → Has W2 (fun k => w.heap.size < k ∧ k < w1.heap.size) e size v m xs := fun {e size m v xs} hh => by
      refine hh.kept (fun k hk => ?_) (fun k hk => by have := hh.lt k hk; omega)
      have := hh.lt k hk
      rw [← hW2, ((Below.refl _ _).alloc (Nat.le_refl _) _).block _ (by simp; omega), Below.heap_setCell _ _ _ _ (by simp; omega), Below.heap_setCell _ _ _ _ (by simp; omega), Below.heap_setCell _ _ _ _ (by simp; omega)]
    refine ⟨?_, ?_, lt1, ?_, kh hv1.out, kh hv2.out, kh hv4.out⟩
    · rw [← hW2]
      exact (((Bw1.out.setCell (p := ⟨w.heap.size, 0, none⟩) (Nat.le_refl _) _).setCell (p := ⟨w.heap.size, 1, none⟩) (Nat.le_refl _) _).setCell (p := ⟨w.heap.size, 2, none⟩) (Nat.le_refl _) _).alloc (by simp; omega) _
    · rw [← hW2, ((Below.refl _ _).alloc (Nat.le_refl _) _).block _ (by simp; omega), setBlk (setBlk (setBlk hs1.out 0 _) 1 _) 2 _]
      rfl
    · have := heap_alloc_new (((w1.setCell ⟨w.heap.size, 0, none⟩ (.int .i64 (ft : Int))).setCell ⟨w.heap.size, 1, none⟩ (.slice a m1 cap)).setCell ⟨w.heap.size, 2, none⟩ (.slice am m2 cm)) (.cells #[.slice p1 Q.cls.length q1, .slice p2 Q.lg.length q2, .slice none 0 0, .slice p4 Q.ws.length q4] 41)
      rw [hW2] at this
      simpa using this
  have z2 : w1.heap.size < W2.heap.size := (Array.getElem?_eq_some_iff.1 K2.r0).1
  rw [hW2]
  clear hW2 c0 c1 c2 c3 hs1 Bw1 hv1 hv2 hv4 hb0 hB0
  generalize w1.heap.size = B at *
  obtain ⟨⟨c0, c1, c2⟩, r0, r1, r2, r3⟩ := K2.cells
  have hs2 := hs'.out.below K2.bel
  have hwt := Mr.hid hs2.1
  clear hs'
  replace K2 := Mr.hid K2
  go_cut [5] (fun s wx => Has wx (fun k => B < k) 27 1 s wt.length (wrd wt) ∧ Below W2.heap.size W2 wx)
  case first =>
    rcases hs2.2 with ⟨rfl, e1, e2⟩ | ⟨ad, rfl, hc3⟩
    · have hw0 : wt = [] := List.eq_nil_of_length_eq_zero (hs2.1.symm.trans e1)
      subst hw0
      subst e1
      subst e2
      clear hs2
      go_wp2_with (at_builtin; refine wpList_append_nils rfl (.const (.slice none 0 0)) (.tmp 22) rfl rfl rfl rfl ?_)
      go_meet
      case rel => exact ⟨Has.nil _ _ _ _, Below.refl _ _⟩
    · have hwn := Mr.hid hs2.1
      have hle : m1 ≤ 8192 := by have := hm1.out; omega
      clear hs2
      replace hc3 := Mr.hid hc3
      go_wp2_with (at_builtin; refine wpList_append_own _ rfl (.const (.slice none 0 0)) (.tmp 22) 28 rfl W2.heap.size 27 i0 (.int .u64 0) 1 8 Try.underlying28 hi0 hz0 hz1 hz2 rfl (by decide) (.slice none 0 0) 0 [] rfl (World.ownsRow_nil W2 _ _ _) ad m1 cap (wrd wt) rfl (by rw [wrd_length, hwn.out]; simp) (fun j u hu => hc3.out j u hu) (wrd_one wt) (by unfold maxLen; omega) (by omega) (Nat.le_refl _) ?_; intro v' w5 hown hgrow hnil)
      go_meet
      case rel =>
        rw [Nat.zero_add, List.nil_append, hwn.out] at hown
        exact ⟨Has.owns hown (fun _ h => by omega), (Below.refl _ _).grown hgrow (Nat.le_refl _) (fun k hk => by simp [Value.ownBlock] at hk)⟩
  case rest =>
    obtain ⟨hnow, hB3⟩ := hcut
    obtain ⟨anow, cnow, rfl, _⟩ := hnow.form
    have K3 := K2.out.below hB3
    have hmt := hmt.out
    have hlen : mt.length ≤ 65536 := by have := hm2.out; omega
    subst hmt
    replace hlen := Mr.hid hlen
    have hHQ : Hs Q := by rw [← hQ.out]; exact (Hs.new ft wt).play mt
    have hd0 : ((dn Q.cls 0 0 : Nat) : Int) = 0 := by rw [dn_zero]; rfl
    clear K2 hB3 c0 c1 c2 r0 r1 r2 r3 hs2
    obtain ⟨⟨c0, c1, c2⟩, r0, r1, r2, r3⟩ := K3.cells
    replace K3 := Mr.hid K3
    replace hnow := Mr.hid hnow
    replace hHQ := Mr.hid hHQ
    replace hd0 := Mr.hid hd0
    go_wp2
    go_loopg [6, 7] mt.length (fun k s6 s7 wr => ∃ i : Nat, s6 = .int .i64 ((dn Q.cls i 0 : Nat) : Int) ∧ s7 = .int .i64 (i : Int) ∧ i + k = mt.length ∧ Kp w wr B (.int .i64 (ft : Int)) (.slice a m1 cap) (.slice am mt.length cm) (.slice p1 Q.cls.length q1) (.slice p2 Q.lg.length q2) (.slice p4 Q.ws.length q4) Q ∧ Has wr (fun k => B < k) 27 1 (.slice anow wt.length cnow) wt.length (wrd (Pk ft wt mt i).ws))
    case atStart => exact ⟨0, by rw [hd0.out], rfl, by omega, K3.out, hnow.out⟩
    case round =>
      obtain ⟨i, rfl, rfl, hi, hK, hcn⟩ := hrel
      obtain ⟨gk1, hgk1⟩ : ∃ gk1, gk1 = gk := ⟨_, rfl⟩
      clear c0 c1 c2 r0 r1 r2 r3 K3 hnow hd0
      obtain ⟨⟨c0, c1, c2⟩, r0, r1, r2, r3⟩ := hK.cells
      by_cases hlt : i < mt.length
      · replace hK := Mr.hid hK
        replace hcn := Mr.hid hcn
        go_wp2
        go_loopg [6, 34] Q.cls.length (fun k s6 s34 wy => ∃ j : Nat, s6 = .int .i64 ((dn Q.cls i j : Nat) : Int) ∧ s34 = .int .i64 (j : Int) ∧ j + k = Q.cls.length ∧ Kp w wy B (.int .i64 (ft : Int)) (.slice a m1 cap) (.slice am mt.length cm) (.slice p1 Q.cls.length q1) (.slice p2 Q.lg.length q2) (.slice p4 Q.ws.length q4) Q ∧ Has wy (fun k => B < k) 27 1 (.slice anow wt.length cnow) wt.length (wrd (cnt ft wt mt i j)))
        case atStart => exact ⟨0, rfl, rfl, by omega, hK.out, by rw [cnt_zero]; exact hcn.out⟩
        case round =>
          obtain ⟨j, rfl, rfl, hj, hK', hcn'⟩ := hrel
          clear c0 c1 c2 r0 r1 r2 r3 hK hcn
          obtain ⟨⟨c0, c1, c2⟩, r0, r1, r2, r3⟩ := hK'.cells
          by_cases hjl : j < Q.cls.length
          · obtain ⟨cl, hcl⟩ : ∃ cl, Q.cls[j]? = some cl := ⟨_, List.getElem?_eq_getElem hjl⟩
            obtain ⟨g1, q1', hg1, ⟨hg1a, hg1b⟩, hg1l, hq1, hq2⟩ := hK'.h1.there (by omega)
            cases hg1
            unfold maxLen at hq2
            have hce : ∀ t (_ : t < 9) u, cl.cells[t]? = some u → wr.cell? ⟨g1, j * 9 + t, none⟩ = some u := fun t ht u hu => hK'.h1.cells (g := g1) rfl (j * 9 + t) u (by rw [clc, flat_get cl_len Q.cls j t cl hcl ht]; exact hu)
            have f0 : wr.cell? ⟨g1, j * 9, none⟩ = some (.int .i64 cl.th) := hce 0 (by decide) _ rfl
            have f1 : wr.cell? ⟨g1, j * 9 + 1, none⟩ = some (.int .i64 cl.op) := hce 1 (by decide) _ rfl
            have f2 : wr.cell? ⟨g1, j * 9 + 2, none⟩ = some (.int .i64 cl.arg) := hce 2 (by decide) _ rfl
            have f3 : wr.cell? ⟨g1, j * 9 + 3, none⟩ = some (.int .i64 cl.data) := hce 3 (by decide) _ rfl
            have f4 : wr.cell? ⟨g1, j * 9 + 4, none⟩ = some (.int .i64 cl.beg) := hce 4 (by decide) _ rfl
            have f5 : wr.cell? ⟨g1, j * 9 + 5, none⟩ = some (.int .i64 cl.fin) := hce 5 (by decide) _ rfl
            have f6 : wr.cell? ⟨g1, j * 9 + 6, none⟩ = some (.int .i64 cl.pt) := hce 6 (by decide) _ rfl
            have f7 : wr.cell? ⟨g1, j * 9 + 7, none⟩ = some (.int .i64 cl.ak) := hce 7 (by decide) _ rfl
            have f8 : wr.cell? ⟨g1, j * 9 + 8, none⟩ = some (.int .i64 cl.av) := hce 8 (by decide) _ rfl
            clear hce
            have hdn := Mr.hid (dn_step Q.cls i j cl hcl)
            by_cases hpt : cl.pt = (i : Int)
            · obtain ⟨t1, t2, t3, t4, t5⟩ := cnt_hit ft wt mt hlen.out i j hlt cl (by rw [hQ.out]; exact hcl) hpt
              have ck := hHQ.out.cl j cl hcl
              have lenQ : Q.ws.length = wt.length := by rw [← hQ.out]; exact play_len (Hs.new ft wt) mt
              have ka0 := ck.arg0
              have ka1 := ck.arg1
              have kb : cl.beg < cl.pt := by rcases ck.way with ⟨_, h, _⟩ | ⟨_, h, _⟩ <;> omega
              have kop := ck.op
              rw [lenQ] at ka1
              rw [t1] at hcn'
              obtain ⟨an, han⟩ : ∃ an : Nat, cl.arg = (an : Int) := ⟨cl.arg.toNat, by omega⟩
              have hana : cl.arg.toNat = an := by omega
              have hanl : an < wt.length := by omega
              rw [hana] at t5
              obtain ⟨gc, qc, hgc, hgcB, hgcl, hgq1, hgq2⟩ := hcn'.there (by omega)
              cases hgc
              have hplen : (Pk ft wt mt i).ws.length = wt.length := pk_len ft wt mt i
              have hx := hcn'.cells (g := gc) rfl an _ (wrd_get (Pk ft wt mt i).ws an (by omega))
              have hfz := hcn'.frozen (g := gc) rfl
              generalize hxv : (Pk ft wt mt i).ws[an]?.getD 0 = xv at *
              rw [t3] at f5
              rw [t4] at f7
              rw [t5] at f8
              rw [hpt] at f6
              rw [han] at f2
              have e3 : dn Q.cls i (j + 1) = dn Q.cls i j + 1 := by rw [hdn.out, if_pos hpt]
              have b1 : decide ((i : Int) ≤ cl.beg) = false := by simp; omega
              have b2 : decide ((wt.length : Int) ≤ (an : Int)) = false := by simp; omega
              have b3 : decide (wt.length ≤ an) = false := by simp; omega
              have dl : dn Q.cls i j + 1 ≤ 1125899906842624 := by
                have h1 : dn Q.cls i (j + 1) ≤ Q.cls.length + Q.cls.length := Nat.add_le_add List.countP_le_length (Nat.le_trans List.countP_le_length (by simp; omega))
                have h2 : Q.cls.length ≤ mt.length := by have := play_cls (Hs.new ft wt) mt; rw [hQ.out] at this; simpa [Pm.new] using this
                have h3 := hlen.out
                omega
              replace hK' := Mr.hid hK'
              replace hcn' := Mr.hid hcn'
              replace t2 := Mr.hid t2
              replace e3 := Mr.hid e3
              replace hcl := Mr.hid hcl
              replace lenQ := Mr.hid lenQ
              replace hplen := Mr.hid hplen
              replace hxv := Mr.hid hxv
              replace hana := Mr.hid hana
              replace han := Mr.hid han
              clear t1 t3 t4 t5 ck
              have hne : gc ≠ wr.heap.size := by omega
              have hx' : (wr.alloc (.cells #[.int .i64 cl.th, .int .i64 cl.op, .int .i64 (an : Int), .int .i64 cl.data, .int .i64 cl.beg, .int .i64 (i : Int), .int .i64 (i : Int), .int .i64 2, .int .i64 (wrap64 xv)] 52)).cell? ⟨gc, an, none⟩ = some (.int .u64 xv) := (((Below.refl wr.heap.size wr).alloc (Nat.le_refl _) _).cell (p := ⟨gc, an, none⟩) hgcl).trans hx
              have b4 : (wrap64 xv == wrap64 xv) = true := by simp
              have b5 : (wrap64 xv != wrap64 xv) = false := by simp
              rcases kop with kop | kop
              · rw [kop] at f1 hx'
                go_upto_region 16 with fail
                go_quiet (fail)
                go_wp2
                go_roundg (gk - 1)
                case measure => omega
                case rel =>
                  have hKa := hK'.out.below ((Below.refl _ _).alloc (Nat.le_refl _) (.cells #[.int .i64 cl.th, .int .i64 1, .int .i64 (an : Int), .int .i64 cl.data, .int .i64 cl.beg, .int .i64 (i : Int), .int .i64 (i : Int), .int .i64 2, .int .i64 (wrap64 xv)] 52))
                  refine ⟨j + 1, by rw [e3.out]; simp, by simp, by omega, hKa.drewN nq, ?_⟩
                  rw [t2.out, bumped, if_neg (by rw [kop]; decide)]
                  exact hcn'.out.alloc _
              · rw [kop] at f1 hx'
                go_upto_region 16 with fail
                go_quiet (fail)
                go_wp2
                go_roundg (gk - 1)
                case measure => omega
                case rel =>
                  have hKa := hK'.out.below ((Below.refl _ _).alloc (Nat.le_refl _) (.cells #[.int .i64 cl.th, .int .i64 2, .int .i64 (an : Int), .int .i64 cl.data, .int .i64 cl.beg, .int .i64 (i : Int), .int .i64 (i : Int), .int .i64 2, .int .i64 (wrap64 xv)] 52))
                  have hHa := hcn'.out.alloc (.cells #[.int .i64 cl.th, .int .i64 2, .int .i64 (an : Int), .int .i64 cl.data, .int .i64 cl.beg, .int .i64 (i : Int), .int .i64 (i : Int), .int .i64 2, .int .i64 (wrap64 xv)] 52)
                  refine ⟨j + 1, by rw [e3.out]; simp, by simp, by omega, (hKa.drewN nq).set ⟨gc, an, none⟩ hgcB _, ?_⟩
                  rw [t2.out, bumped, if_pos kop, hana.out, hxv.out]
                  have hpt := has_put (has_drewN hHa nq) an (.int .u64 (up xv))
                  rw [show (wrd (Pk ft wt mt i).ws).set an (.int .u64 (up xv)) = wrd ((Pk ft wt mt i).ws.set an (up xv)) from by simp [wrd, List.map_set]] at hpt
                  exact hpt
            · have hck : cnt ft wt mt i (j + 1) = cnt ft wt mt i j := cnt_skip ft wt mt i j cl (by rw [hQ.out]; exact hcl) hpt
              have e1 : (cl.pt == (i : Int)) = false := by simpa using hpt
              have e2 : (!(cl.pt == (i : Int))) = true := by rw [e1]; rfl
              have e3 : dn Q.cls i (j + 1) = dn Q.cls i j := by rw [hdn.out, if_neg hpt]; rfl
              replace hK' := Mr.hid hK'
              replace hcn' := Mr.hid hcn'
              replace hck := Mr.hid hck
              replace e3 := Mr.hid e3
              replace hcl := Mr.hid hcl
              go_wp2
              go_roundg (gk - 1)
              case measure => omega
              case rel => exact ⟨j + 1, by rw [e3.out], by simp, by omega, hK'.out.below ((Below.refl _ _).alloc (Nat.le_refl _) _), by rw [hck.out]; exact hcn'.out.alloc _⟩
          · have hje : j = Q.cls.length := by omega
            have hck : cnt ft wt mt i j = (Pk ft wt mt (i + 1)).ws := by rw [hje]; have := cnt_all ft wt mt hlen.out i hlt; rw [hQ.out] at this; exact this
            have hdn : dn Q.cls i j = dn Q.cls (i + 1) 0 := by rw [hje]; exact dn_next _ _
            rw [hck] at hcn'
            rw [hdn]
            replace hK' := Mr.hid hK'
            replace hcn' := Mr.hid hcn'
            clear hck hdn
            have hl2 := hlen.out
            go_wp2
            go_roundg (gk1 - 1)
            case measure => omega
            case rel => exact ⟨i + 1, rfl, by simp, by omega, hK'.out, hcn'.out⟩
      · obtain rfl : i = mt.length := by omega
        rw [pk_all, hQ.out] at hcn
        have lenQ : Q.ws.length = wt.length := by rw [← hQ.out]; exact play_len (Hs.new ft wt) mt
        have clsQ : Q.cls.length ≤ mt.length := by have := play_cls (Hs.new ft wt) mt; rw [hQ.out] at this; simpa [Pm.new] using this
        have hl2 := hlen.out
        have nQ : Q.n = mt.length := by rw [← hQ.out, play_n]; simp [Pm.new]; simp [Pm.new]; omega
        have hdl := dn_le Q.cls mt.length
        replace hdl := Mr.hid hdl
        replace nQ := Mr.hid nQ
        replace lenQ := Mr.hid lenQ
        replace hcn := Mr.hid hcn
        replace hK := Mr.hid hK
        go_wp2
        go_loopg [108] Q.cls.length (fun k s wy => ∃ j : Nat, s = .int .i64 (j : Int) ∧ j + k = Q.cls.length ∧ Kp w wy B (.int .i64 (ft : Int)) (.slice a m1 cap) (.slice am mt.length cm) (.slice p1 Q.cls.length q1) (.slice p2 Q.lg.length q2) (.slice p4 Q.ws.length q4) Q ∧ Has wy (fun k => B < k) 27 1 (.slice anow wt.length cnow) wt.length (wrd Q.ws))
        case atStart => exact ⟨0, rfl, by omega, hK.out, hcn.out⟩
        case round =>
          obtain ⟨j, rfl, hj, hK', hcn'⟩ := hrel
          clear c0 c1 c2 r0 r1 r2 r3 hK hcn
          obtain ⟨⟨c0, c1, c2⟩, r0, r1, r2, r3⟩ := hK'.cells
          by_cases hjl : j < Q.cls.length
          · obtain ⟨cl, hcl⟩ : ∃ cl, Q.cls[j]? = some cl := ⟨_, List.getElem?_eq_getElem hjl⟩
            have ck := hHQ.out.cl j cl hcl
            obtain ⟨g1, q1', hg1, ⟨hg1a, hg1b⟩, hg1l, hq1, hq2⟩ := hK'.h1.there (by omega)
            cases hg1
            have hce : ∀ t (_ : t < 9) u, cl.cells[t]? = some u → wr.cell? ⟨g1, j * 9 + t, none⟩ = some u := fun t ht u hu => hK'.h1.cells (g := g1) rfl (j * 9 + t) u (by rw [clc, flat_get cl_len Q.cls j t cl hcl ht]; exact hu)
            have f0 : wr.cell? ⟨g1, j * 9, none⟩ = some (.int .i64 cl.th) := hce 0 (by decide) _ rfl
            have f1 : wr.cell? ⟨g1, j * 9 + 1, none⟩ = some (.int .i64 cl.op) := hce 1 (by decide) _ rfl
            have f2 : wr.cell? ⟨g1, j * 9 + 2, none⟩ = some (.int .i64 cl.arg) := hce 2 (by decide) _ rfl
            have f3 : wr.cell? ⟨g1, j * 9 + 3, none⟩ = some (.int .i64 cl.data) := hce 3 (by decide) _ rfl
            have f4 : wr.cell? ⟨g1, j * 9 + 4, none⟩ = some (.int .i64 cl.beg) := hce 4 (by decide) _ rfl
            have f5 : wr.cell? ⟨g1, j * 9 + 5, none⟩ = some (.int .i64 cl.fin) := hce 5 (by decide) _ rfl
            have f6 : wr.cell? ⟨g1, j * 9 + 6, none⟩ = some (.int .i64 cl.pt) := hce 6 (by decide) _ rfl
            have f7 : wr.cell? ⟨g1, j * 9 + 7, none⟩ = some (.int .i64 cl.ak) := hce 7 (by decide) _ rfl
            have f8 : wr.cell? ⟨g1, j * 9 + 8, none⟩ = some (.int .i64 cl.av) := hce 8 (by decide) _ rfl
            have hnq := nQ.out
            have hBw : w.heap.size < wr.heap.size := (Array.getElem?_eq_some_iff.1 hK'.s0).1
            have b0 := ck.b0
            have b1 : decide ((mt.length : Int) ≤ cl.pt) = false := by rcases ck.way with ⟨_, h, _⟩ | ⟨_, _, h, _⟩ <;> simp <;> omega
            have b2 : (decide (0 ≤ cl.fin) = false) ∨ (decide (0 ≤ cl.fin) = true ∧ decide (cl.pt < 0) = false) := by
              rcases ck.way with ⟨h, _, _⟩ | ⟨h, h', _, _⟩
              · exact .inl (by simp; omega)
              · exact .inr ⟨by simp; omega, by simp; omega⟩
            clear hce ck hcl b0 hnq
            replace hK' := Mr.hid hK'
            replace hcn' := Mr.hid hcn'
            rcases b2 with b2 | ⟨b2, b3⟩ <;> go_wp2 <;> go_roundg (gk - 1)
            case measure => omega
            case rel => exact ⟨j + 1, by simp, by omega, hK'.out.below ((Below.refl _ _).alloc (Nat.le_refl _) _), hcn'.out.alloc _⟩
            case measure => omega
            case rel => exact ⟨j + 1, by simp, by omega, hK'.out.below ((Below.refl _ _).alloc (Nat.le_refl _) _), hcn'.out.alloc _⟩
          · replace hK' := Mr.hid hK'
            replace hcn' := Mr.hid hcn'
            go_wp2
            go_loopg [12] wt.length (fun k s wy => ∃ j : Nat, s = .int .i64 (j : Int) ∧ j + k = wt.length ∧ Kp w wy B (.int .i64 (ft : Int)) (.slice a m1 cap) (.slice am mt.length cm) (.slice p1 Q.cls.length q1) (.slice p2 Q.lg.length q2) (.slice p4 Q.ws.length q4) Q ∧ Has wy (fun k => B < k) 27 1 (.slice anow wt.length cnow) wt.length (wrd Q.ws))
            case atStart => exact ⟨0, rfl, by omega, hK'.out, hcn'.out⟩
            case round =>
              obtain ⟨l, rfl, hl, hK4, hcn4⟩ := hrel
              clear c0 c1 c2 r0 r1 r2 r3 hK' hcn'
              obtain ⟨⟨c0, c1, c2⟩, r0, r1, r2, r3⟩ := hK4.cells
              have hwl : wt.length ≤ 8192 := by
                have h1 := hm1.out
                have h2 := hwt.out
                omega
              by_cases hll : l < wt.length
              · have hqe := lenQ.out
                obtain ⟨gc, qc, hgc, hgcB, hgcl, hgq1, hgq2⟩ := hcn4.there (by omega)
                cases hgc
                obtain ⟨g4, q4', hg4, hg4B, hg4l, hg4q1, hg4q2⟩ := hK4.h4.there (by omega)
                cases hg4
                have x1 := hcn4.cells (g := gc) rfl l _ (wrd_get Q.ws l (by omega))
                have x2 := hK4.h4.cells (g := g4) rfl l _ (wrd_get Q.ws l (by omega))
                generalize Q.ws[l]?.getD 0 = xv at x1 x2
                have b1 : ((Q.ws.length : Int) != (wt.length : Int)) = false := by simp; omega
                have b2 : ((Q.ws.length : Int) == (wt.length : Int)) = true := by simp; omega
                have b3 : (xv != xv) = false := by simp
                have b4 : l < Q.ws.length := by omega
                replace hqe := Mr.hid hqe
                replace hK4 := Mr.hid hK4
                replace hcn4 := Mr.hid hcn4
                go_upto_region 30 with fail
                go_quiet (fail)
                go_wp2
                go_roundg (gk - 1)
                case measure => omega
                case rel => exact ⟨l + 1, by simp, by omega, hK4.out.drewN _, has_drewN hcn4.out _⟩
              · have hdl2 := hdl.out
                have b1 : decide (((dn Q.cls mt.length 0 : Nat) : Int) ≤ (Q.cls.length : Int)) = true := by simp; omega
                replace hK4 := Mr.hid hK4
                go_wp2
                go_ret
                exact ⟨by simp, hK4.out.bel⟩
theorem counters_law (th : Int) (a : Option Addr) (n cap : Nat) (ws : List Int) (am : Option Addr) (nm cm : Nat) (ms : List Mv) (w : World) (hs : Src w a n cap ws) (hm : MvAt w am nm ms) (hn : n ≤ cap) (hnm : nm ≤ cm) :
    Calls Try.prog 4 #[.agg #[.int .i64 th, .slice a n cap, .slice am nm cm]] w fun e w' => e = .returned (.bool true) ∧ Below w.heap.size w w' :=
  counters_walk w th a n cap am nm cm hn hnm ws ms hs hm
end Go.Proofs.Ytphfpnmngcepjaa.Ma
