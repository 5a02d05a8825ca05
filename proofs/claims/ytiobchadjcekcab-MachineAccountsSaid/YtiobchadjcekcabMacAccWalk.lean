/-
  MachineAccounts: the walk.
-/
import Derived.Test.YtiobchadjcekcabMacKp2
import Derived.Test.YtiobchadjcekcabMacAccP
namespace Go.Proofs.Ytiobchadjcekcab.Ma
open Go.RowKit Go.Shelf Mr Me
theorem run_append_nils (w : World) : (Builtin.append_ #[22, 22] 22 #[.slice none 0 0, .slice none 0 0]).run Try.prog w = .ok (.slice none 0 0) w := by
  obtain ⟨i0, hi0, hz0, hz1, hz2⟩ := info_parts info_u64
  simp [Builtin.append_, run_underlying Try.underlying22, sizeOf, typeInfo, hi0, Builtin.lenOf, Builtin.firstCells]
theorem wpList_append_nils {w : World} {ops : Array Oper} {rest : List Oper} {o : Oper} {a : Act} {Q : Exit → Act → World → Prop} (hgd : o.guard = none) (s x : Operand)
    (ho : o.op = .call { callee := .builtin .append, args := #[s, x], argTypes := #[22, 22] }) (hty : o.type = 22) (hs : a.eval s = .slice none 0 0) (hx : a.eval x = .slice none 0 0)
    (h : wpList Try.prog ops Q rest (a.put o.dst (.slice none 0 0)) w) : wpList Try.prog ops Q (o :: rest) a w :=
  wpList_plain hgd fun _ hK => by
    have hr := run_append_nils w
    unfold Oper.wp execOp
    simp only [ho, hty, resolve, invoke, builtin, Sem.run_bind, Sem.run_pure, Result.andThen_ok, List.map_toArray, List.map_cons, List.map_nil, hs, hx, hr]
    exact hK _ _ h
def inC (th mv : Int) (c : Cl) : Bool := c.th == th && (decide (c.beg < mv) && (decide (c.fin < 0) || decide (mv ≤ c.fin)))
set_option maxRecDepth 100000 in
set_option maxHeartbeats 2000000 in
theorem inCall_any (w : World) (S : Nat → Prop) (p : Option Addr) (q : Nat) (l : List Cl) (h : Has w S 57 9 (.slice p l.length q) l.length (clc l)) (th mv : Int) (hex : ∃ (c : Nat) (cl : Cl), l[c]? = some cl ∧ inC th mv cl = true) :
    Calls Try.prog 10 #[.slice p l.length q, .int .i64 th, .int .i64 mv] w fun e w' => e = .returned (.bool true) ∧ Below w.heap.size w w' := by
  replace h := Mr.hid h
  replace hex := Mr.hid hex
  go_enter Try.func10, Try.ntmps10
  go_wp2
  go_loopg [11] l.length (fun k s wr => ∃ j : Nat, s = .int .i64 (j : Int) ∧ j + k = l.length ∧ Below w.heap.size w wr ∧ ∀ (c : Nat) (cl : Cl), c < j → l[c]? = some cl → inC th mv cl = false)
  case atStart => exact ⟨0, rfl, by omega, Below.refl _ _, fun c cl hc => by omega⟩
  case round =>
    obtain ⟨j, rfl, hj, hB, hno⟩ := hrel
    by_cases hjl : j < l.length
    · obtain ⟨cl, hcl⟩ : ∃ cl, l[j]? = some cl := ⟨_, List.getElem?_eq_getElem hjl⟩
      have h' := h.out.below hB
      obtain ⟨g1, q1', hg1, hg1b, hg1l, hq1, hq2⟩ := h'.there (by omega)
      cases hg1
      unfold maxLen at hq2
      obtain ⟨f0, f1, f2, f3, f4, f5, f6, f7, f8⟩ := cl_cells h' hcl
      have next : ∀ o : Obj, inC th mv cl = false → ∃ j' : Nat, (Value.int .i64 ((j : Int) + 1)) = .int .i64 (j' : Int) ∧ j' + (gk - 1) = l.length ∧ Below w.heap.size w (wr.alloc o) ∧ ∀ (c : Nat) (cl : Cl), c < j' → l[c]? = some cl → inC th mv cl = false :=
        fun o hf => ⟨j + 1, by simp, by omega, hB.alloc hB.size o, fun c cl' hc hcl' => by
          rcases Nat.lt_or_ge c j with h | h
          · exact hno c cl' h hcl'
          · obtain rfl : c = j := by omega
            rw [hcl] at hcl'
            cases hcl'
            exact hf⟩
      replace next := Mr.hid next
      have hBa := fun o : Obj => hB.alloc hB.size o
      replace hBa := Mr.hid hBa
      replace hB := Mr.hid hB
      replace hno := Mr.hid hno
      replace h' := Mr.hid h'
      replace hcl := Mr.hid hcl
      cases e1 : (cl.th == th)
      · go_wp2
        go_roundg (gk - 1)
        case measure => omega
        case rel => exact next.out _ (by simp [inC, e1])
      · cases e2 : decide (cl.beg < mv)
        · go_wp2
          go_roundg (gk - 1)
          case measure => omega
          case rel => exact next.out _ (by unfold inC; rw [e1, e2]; rfl)
        · cases e3 : decide (cl.fin < 0)
          · cases e4 : decide (mv ≤ cl.fin)
            · go_wp2
              go_roundg (gk - 1)
              case measure => omega
              case rel => exact next.out _ (by unfold inC; rw [e1, e2, e3, e4]; rfl)
            · go_wp2
              go_ret
              exact ⟨rfl, hBa.out _⟩
          · go_wp2
            go_ret
            exact ⟨rfl, hBa.out _⟩
    · exfalso
      obtain ⟨c, cl, hc, ht⟩ := hex.out
      have := hno c cl (by have := (List.getElem?_eq_some_iff.1 hc).1; omega) hc
      rw [this] at ht
      cases ht
def lastM (l : List Acc) : Nat → Int
  | 0 => -1
  | j + 1 => (l[j]?.map Acc.mv).getD 0
theorem lastM_step (l : List Acc) (j : Nat) (a : Acc) (h : l[j]? = some a) : lastM l (j + 1) = a.mv := by simp [lastM, h]
theorem lastM_lt {ws0 : List Int} {ms : List Mv} {cls : List Cl} {l : List Acc} {j : Nat} {a : Acc} (h : Ae ws0 ms cls l j a) (hj : j < l.length) : lastM l j < a.mv := by
  cases j with
  | zero => obtain ⟨k, hk, _⟩ := h.mv; simp only [lastM]; omega
  | succ j =>
    obtain ⟨b, hb⟩ : ∃ b, l[j]? = some b := ⟨_, List.getElem?_eq_getElem (by omega)⟩
    rw [lastM_step l j b hb]
    exact h.prev b (by omega) (by simpa using hb)
theorem Ae.inC {ws0 : List Int} {ms : List Mv} {cls : List Cl} {l : List Acc} {j : Nat} {a : Acc} (h : Ae ws0 ms cls l j a) : ∃ (c : Nat) (cl : Cl), cls[c]? = some cl ∧ Ma.inC a.th a.mv cl = true := by
  obtain ⟨c, cl, h1, h2, h3, h4⟩ := h.inc
  refine ⟨c, cl, h1, ?_⟩
  unfold Ma.inC
  simp only [Bool.and_eq_true, Bool.or_eq_true, beq_iff_eq, decide_eq_true_eq]
  exact ⟨h2, h3, h4⟩
set_option maxRecDepth 100000 in
set_option maxHeartbeats 2000000 in
theorem accounts_walk (w : World) (th : Int) (a : Option Addr) (n cap : Nat) (am : Option Addr) (nm cm : Nat) (hn : n ≤ cap) (hnm : nm ≤ cm) (ws : List Int) (ms : List Mv) (hs : Src w a n cap ws) (hm : MvAt w am nm ms) :
    Calls Try.prog 3 #[.agg #[.int .i64 th, .slice a n cap, .slice am nm cm]] w fun e w' => e = .returned (.bool true) ∧ Below w.heap.size w w' := by
  have PL := fun (W : World) (hB : Below w.heap.size w W) => play_any W th a n cap am nm cm hn hnm ws ms (hs.below hB) (hm.below hB)
  obtain ⟨i0, hi0, hz0, hz1, hz2⟩ := info_parts info_u64
  have hs' := src_take hs 8192
  have hmt := (hm.take 65536)
  unfold Playd at PL
  generalize hQ : (Pm.new (fitT th) (ws.take 8192)).play (ms.take 65536) = Q at PL
  generalize fitT th = ft at PL hQ
  generalize hm1 : min n 8192 = m1 at PL hs'
  generalize hm2 : min nm 65536 = m2 at PL hmt
  generalize ws.take 8192 = wt at *
  generalize ms.take 65536 = mt at *
  have hm1' : m1 ≤ 8192 := by omega
  have hml := hmt.1
  have hlen : mt.length ≤ 65536 := by omega
  subst hml
  have hwl := hs'.1
  subst hwl
  have AE : ∀ (j : Nat) (ac : Acc), Q.lg[j]? = some ac → Ae wt mt Q.cls Q.lg j ac := by rw [← hQ]; exact play_ae ft wt mt hlen
  have AW : wl wt Q.lg = Q.ws := by rw [← hQ]; exact play_aw ft wt mt hlen
  have lenQ : Q.ws.length = wt.length := by rw [← AW]; exact wl_length _ _
  have b1 : ((Q.ws.length : Int) != (wt.length : Int)) = false := by simp; omega
  have b2 : ((Q.ws.length : Int) == (wt.length : Int)) = true := by simp; omega
  replace hQ := Mr.hid hQ
  replace AE := Mr.hid AE
  replace AW := Mr.hid AW
  replace lenQ := Mr.hid lenQ
  replace hm1 := Mr.hid hm1
  replace hm2 := Mr.hid hm2
  replace hs' := Mr.hid hs'
  replace hmt := Mr.hid hmt
  clear hs hm
  have hb0 : ∀ (o : Obj), (w.alloc o).heap[w.heap.size]? = some o := fun o => heap_alloc_new w o
  have hB0 := fun o => (Below.refl w.heap.size w).alloc (Nat.le_refl _) o
  go_enter Try.func3, Try.ntmps3
  go_upto_region 2 with (first
    | (go_at_call 9; refine (PL _ (hB0 _)).mono ?_; clear PL; rintro e w1 ⟨v1, v2, v4, rfl, hv1, hv2, hv4, hB1⟩; have hs1 := (hB1.block w.heap.size (by simp)).trans (hb0 _); have c0 : w1.cell? ⟨w.heap.size, 0, none⟩ = some (.int .i64 th) := (by simp [World.cell?, hs1]); have c1 : w1.cell? ⟨w.heap.size, 1, none⟩ = some (.slice a n cap) := (by simp [World.cell?, hs1]); have c2 : w1.cell? ⟨w.heap.size, 2, none⟩ = some (.slice am nm cm) := (by simp [World.cell?, hs1]); have c3 : ∀ j, w1.frozen? ⟨w.heap.size, j, none⟩ = false := (fun j => by simp [World.frozen?, hs1]); have lt1 : w.heap.size < w1.heap.size := (Array.getElem?_eq_some_iff.1 hs1).1; have Bw1 : Below w.heap.size w w1 := (hB0 _).trans (hB1.mono (by simp)); simp only [World.size_alloc] at hv1 hv2 hv4; replace hs1 := Mr.hid hs1; clear hB1; replace Bw1 := Mr.hid Bw1; obtain ⟨p1, q1, rfl, _⟩ := hv1.form; obtain ⟨p2, q2, rfl, _⟩ := hv2.form; obtain ⟨p4, q4, rfl, _⟩ := hv4.form; replace hv1 := Mr.hid hv1; replace hv2 := Mr.hid hv2; replace hv4 := Mr.hid hv4)
    | fail)
  have K2 := kp_open (x := .int .i64 (ft : Int)) (y := .slice a wt.length cap) (z := .slice am mt.length cm) hs1.out Bw1.out hv1.out hv2.out hv4.out
  generalize (((w1.setCell ⟨w.heap.size, 0, none⟩ (.int .i64 (ft : Int))).setCell ⟨w.heap.size, 1, none⟩ (.slice a wt.length cap)).setCell ⟨w.heap.size, 2, none⟩ (.slice am mt.length cm)).alloc (.cells #[.slice p1 Q.cls.length q1, .slice p2 Q.lg.length q2, .slice none 0 0, .slice p4 Q.ws.length q4] 30) = W2 at *
  have z2 : w1.heap.size < W2.heap.size := (Array.getElem?_eq_some_iff.1 K2.r0).1
  have z2' : w.heap.size < W2.heap.size := by omega
  clear c0 c1 c2 c3 hs1 Bw1 hv1 hv2 hv4 hb0 hB0
  generalize w1.heap.size = B at *
  obtain ⟨⟨c0, c1, c2⟩, r0, r1, r2, r3⟩ := K2.cells
  have hs2 := hs'.out.below K2.bel
  replace K2 := Mr.hid K2
  go_upto_region 4 with fail
  go_cut [5] (fun s wx => Has wx (fun k => B < k) 34 1 s wt.length (wrd wt) ∧ Below W2.heap.size W2 wx)
  case first =>
    rcases hs2.2 with ⟨rfl, e1, e2⟩ | ⟨ad, rfl, hc3⟩
    · have hw0 : wt = [] := List.eq_nil_of_length_eq_zero e1
      subst hw0
      subst e2
      clear hs2
      go_wp2_with (at_builtin; refine wpList_append_nils rfl (.const (.slice none 0 0)) (.tmp 30) rfl rfl rfl rfl ?_)
      go_meet
      case rel => exact ⟨Has.nil _ _ _ _, Below.refl _ _⟩
    · clear hs2
      replace hc3 := Mr.hid hc3
      go_wp2_with (at_builtin; refine wpList_append_own _ rfl (.const (.slice none 0 0)) (.tmp 30) 22 rfl W2.heap.size 34 i0 (.int .u64 0) 1 8 Try.underlying22 hi0 hz0 hz1 hz2 rfl (by decide) (.slice none 0 0) 0 [] rfl (World.ownsRow_nil W2 _ _ _) ad wt.length cap (wrd wt) rfl (by rw [wrd_length]; simp) (fun j u hu => hc3.out j u hu) (wrd_one wt) (by unfold maxLen; omega) (by omega) (Nat.le_refl _) ?_; intro v' w5 hown hgrow hnil)
      go_meet
      case rel =>
        rw [Nat.zero_add, List.nil_append] at hown
        exact ⟨Has.owns hown (fun _ h => by omega), (Below.refl _ _).grown hgrow (Nat.le_refl _) (fun k hk => by simp [Value.ownBlock] at hk)⟩
  case rest =>
    obtain ⟨hnow, hB3⟩ := hcut
    obtain ⟨anow, cnow, rfl, _⟩ := hnow.form
    have K3 := K2.out.below hB3
    clear K2 hB3 c0 c1 c2 r0 r1 r2 r3 hs2
    obtain ⟨⟨c0, c1, c2⟩, r0, r1, r2, r3⟩ := K3.cells
    replace K3 := Mr.hid K3
    replace hnow := Mr.hid hnow
    replace hlen := Mr.hid hlen
    go_wp2
    go_loopg [6, 35] Q.lg.length (fun k s6 s35 wr => ∃ j : Nat, s6 = .int .i64 (lastM Q.lg j) ∧ s35 = .int .i64 (j : Int) ∧ j + k = Q.lg.length ∧ Kp w wr B (.int .i64 (ft : Int)) (.slice a wt.length cap) (.slice am mt.length cm) (.slice p1 Q.cls.length q1) (.slice p2 Q.lg.length q2) (.slice p4 Q.ws.length q4) Q ∧ Has wr (fun k => B < k) 34 1 (.slice anow wt.length cnow) wt.length (wrd (wl wt (Q.lg.take j))))
    case atStart => exact ⟨0, rfl, rfl, by omega, K3.out, by rw [List.take_zero, wl_nil]; exact hnow.out⟩
    case round =>
      obtain ⟨j, rfl, rfl, hj, hK, hcn⟩ := hrel
      clear c0 c1 c2 r0 r1 r2 r3 K3 hnow
      obtain ⟨⟨c0, c1, c2⟩, r0, r1, r2, r3⟩ := hK.cells
      have y0 : w.heap.size < wr.heap.size := (Array.getElem?_eq_some_iff.1 hK.s0).1
      have y1 : B < wr.heap.size := (Array.getElem?_eq_some_iff.1 hK.r0).1
      by_cases hjl : j < Q.lg.length
      · obtain ⟨ac, hac⟩ : ∃ ac, Q.lg[j]? = some ac := ⟨_, List.getElem?_eq_getElem hjl⟩
        have ae := AE.out j ac hac
        have llt := lastM_lt ae hjl
        have lst := lastM_step Q.lg j ac hac
        have IC := fun (W : World) (hB : Below wr.heap.size wr W) => inCall_any W _ p1 q1 Q.cls (hK.h1.below hB) ac.th ac.mv ae.inC
        have wst := wl_take wt Q.lg j ac hac
        have wln : (wl wt (Q.lg.take j)).length = wt.length := wl_length _ _
        obtain ⟨k, hk1, hk2, hk3, hk4⟩ := ae.mv
        obtain ⟨an, ha1, ha2, ha3⟩ := ae.ad
        have hkd := ae.kd
        obtain ⟨g1, q1', hg1, hg1b, hg1l, hq1, hq2⟩ := hK.h2.there (by omega)
        cases hg1
        unfold maxLen at hq2
        obtain ⟨f0, f1, f2, f3, f4, f5, f6⟩ := ac_cells hK.h2 hac
        obtain ⟨gc, qc, hgc, hgcB, hgcl, hgq1, hgq2⟩ := hcn.there (by omega)
        cases hgc
        unfold maxLen at hgq2
        have hx := hcn.cells (g := gc) rfl an _ (wrd_get _ an (by omega))
        rw [← ha3] at hx
        have hfz := hcn.frozen (g := gc) rfl
        rcases hmt.out.2 with h0 | ⟨bo, oo, rfl, hbo, hc⟩
        · rw [h0] at hk2; simp at hk2
        obtain ⟨d0, d1, d2, d3⟩ := hc k hk2
        have hcW := fun (j : Nat) (u : Value) (hu : w.cell? ⟨bo, j, none⟩ = some u) => (hK.bel.cell (p := ⟨bo, j, none⟩) hbo).trans hu
        have g0 := hcW _ _ d0
        have g1' := hcW _ _ d1
        have g2 := hcW _ _ d2
        have g3 := hcW _ _ d3
        have hbol : bo < wr.heap.size := by omega
        clear hc hcW d0 d1 d2 d3
        rw [hk3] at g0
        rw [hk4] at g1'
        generalize mt[k]?.getD noMv = m at *
        rw [hk1] at f0 llt IC lst
        rw [ha1] at f3
        have e1 : decide ((k : Int) ≤ lastM Q.lg j) = false := by simp; omega
        have e2 : decide ((mt.length : Int) ≤ (k : Int)) = false := by simp; omega
        have e3 : decide (mt.length ≤ k) = false := by simp; omega
        have e4 : decide ((an : Int) < 0) = false := by simp
        have e5 : decide ((wt.length : Int) ≤ (an : Int)) = false := by simp; omega
        have e6 : decide (wt.length ≤ an) = false := by simp; omega
        have hl2 := hlen.out
        have ww : wstep (wl wt (Q.lg.take j)) ac = if ac.kd = 3 ∧ ac.old = ac.saw then (wl wt (Q.lg.take j)).set an ac.new else wl wt (Q.lg.take j) := by
          unfold wstep
          rw [ha1]
          rfl
        rw [ww] at wst
        have hbx : ∀ w5 : World, Below ((wr.alloc (.cells #[.int .i64 (k : Int), .int .i64 ac.th, .int .i64 ac.kd, .int .i64 (an : Int), .int .u64 ac.old, .int .u64 ac.new, .int .u64 ac.saw] 36)).alloc (.cells #[.int .i64 ac.th, .int .i64 0, .int .i64 m.arg, .int .i64 m.data] 39)).heap.size ((wr.alloc (.cells #[.int .i64 (k : Int), .int .i64 ac.th, .int .i64 ac.kd, .int .i64 (an : Int), .int .u64 ac.old, .int .u64 ac.new, .int .u64 ac.saw] 36)).alloc (.cells #[.int .i64 ac.th, .int .i64 0, .int .i64 m.arg, .int .i64 m.data] 39)) w5 →
            (w5.cell? ⟨wr.heap.size, 2, none⟩ = some (.int .i64 ac.kd) ∧ w5.cell? ⟨wr.heap.size, 3, none⟩ = some (.int .i64 (an : Int)) ∧ w5.cell? ⟨wr.heap.size, 4, none⟩ = some (.int .u64 ac.old) ∧ w5.cell? ⟨wr.heap.size, 5, none⟩ = some (.int .u64 ac.new) ∧ w5.cell? ⟨wr.heap.size, 6, none⟩ = some (.int .u64 ac.saw)) ∧ w5.cell? ⟨gc, an, none⟩ = some (.int .u64 ac.saw) ∧ (∀ t, w5.frozen? ⟨gc, t, none⟩ = false) ∧ Kp w w5 B (.int .i64 (ft : Int)) (.slice a wt.length cap) (.slice (some ⟨bo, oo, none⟩) mt.length cm) (.slice p1 Q.cls.length q1) (.slice (some ⟨g1, 0, none⟩) Q.lg.length q2) (.slice p4 Q.ws.length q4) Q ∧ Has w5 (fun k => B < k) 34 1 (.slice (some ⟨gc, 0, none⟩) wt.length cnow) wt.length (wrd (wl wt (Q.lg.take j))) := fun w5 hB5 => by
          have hBw : Below wr.heap.size wr w5 := (((Below.refl wr.heap.size wr).alloc (Nat.le_refl _) _).alloc (by simp) _).trans (hB5.mono (by simp; omega))
          have hb : w5.heap[wr.heap.size]? = some (.cells #[.int .i64 (k : Int), .int .i64 ac.th, .int .i64 ac.kd, .int .i64 (an : Int), .int .u64 ac.old, .int .u64 ac.new, .int .u64 ac.saw] 36 (0, 0)) := by
            rw [hB5.block _ (by simp; omega), ((Below.refl _ _).alloc (Nat.le_refl _) _).block _ (by simp)]
            exact heap_alloc_new wr _
          refine ⟨⟨?_, ?_, ?_, ?_, ?_⟩, (hBw.cell (p := ⟨gc, an, none⟩) hgcl).trans hx, (hcn.below hBw).frozen (g := gc) rfl, hK.below hBw, hcn.below hBw⟩ <;> simp [World.cell?, hb]
        have IC' := fun (o1 o2 : Obj) => IC ((wr.alloc o1).alloc o2) (((Below.refl wr.heap.size wr).alloc (Nat.le_refl _) o1).alloc (by simp) o2)
        replace hbx := Mr.hid hbx
        replace hK := Mr.hid hK
        replace hcn := Mr.hid hcn
        replace wst := Mr.hid wst
        replace wln := Mr.hid wln
        replace lst := Mr.hid lst
        replace llt := Mr.hid llt
        replace hac := Mr.hid hac
        replace hk1 := Mr.hid hk1
        replace ha1 := Mr.hid ha1
        replace ha3 := Mr.hid ha3
        replace hk3 := Mr.hid hk3
        replace hk4 := Mr.hid hk4
        clear IC ww ae
        go_upto_region 15 with (go_at_call 10; refine (IC' _ _).mono ?_; clear IC'; rintro e w5 ⟨rfl, hB5⟩; obtain ⟨⟨t2, t3, t4, t5, t6⟩, tx, tz, tK, tH⟩ := hbx.out w5 hB5; clear hbx; replace hB5 := Mr.hid hB5)
        have tKl : gc < w5.heap.size := (tH.lt gc rfl).2
        replace tK := Mr.hid tK
        replace tH := Mr.hid tH
        rcases hkd with ⟨k1, k2, k3⟩ | k1
        · rw [k1] at t2
          rw [k2] at t4
          rw [k3] at t5
          go_wp2
          go_roundg (gk - 1)
          case measure => omega
          case rel =>
            refine ⟨j + 1, by rw [lst.out], by simp, by omega, tK.out, ?_⟩
            rw [wst.out, if_neg (by omega)]
            exact tH.out
        · rw [k1] at t2
          by_cases ho : ac.old = ac.saw
          · have e7 : (ac.old == ac.saw) = true := by simpa using ho
            go_wp2
            go_roundg (gk - 1)
            case measure => omega
            case rel =>
              refine ⟨j + 1, by rw [lst.out], by simp, by omega, tK.out.set ⟨gc, an, none⟩ hgcB _, ?_⟩
              rw [wst.out, if_pos ⟨k1, ho⟩]
              have hpt := has_put tH.out an (.int .u64 ac.new)
              rw [show (wrd (wl wt (Q.lg.take j))).set an (.int .u64 ac.new) = wrd ((wl wt (Q.lg.take j)).set an ac.new) from by simp [wrd, List.map_set]] at hpt
              exact hpt
          · have e7 : (ac.old == ac.saw) = false := by simpa using ho
            go_wp2
            go_roundg (gk - 1)
            case measure => omega
            case rel =>
              refine ⟨j + 1, by rw [lst.out], by simp, by omega, tK.out, ?_⟩
              rw [wst.out, if_neg (fun h => ho h.2)]
              exact tH.out
      · have hje : j = Q.lg.length := by omega
        subst hje
        rw [List.take_length, AW.out] at hcn
        replace hK := Mr.hid hK
        replace hcn := Mr.hid hcn
        go_wp2
        go_loopg [11] wt.length (fun k s wy => ∃ j : Nat, s = .int .i64 (j : Int) ∧ j + k = wt.length ∧ Kp w wy B (.int .i64 (ft : Int)) (.slice a wt.length cap) (.slice am mt.length cm) (.slice p1 Q.cls.length q1) (.slice p2 Q.lg.length q2) (.slice p4 Q.ws.length q4) Q ∧ Has wy (fun k => B < k) 34 1 (.slice anow wt.length cnow) wt.length (wrd Q.ws))
        case atStart => exact ⟨0, rfl, by omega, hK.out, hcn.out⟩
        case round =>
          obtain ⟨l, rfl, hl, hK4, hcn4⟩ := hrel
          clear c0 c1 c2 r0 r1 r2 r3 hK hcn
          obtain ⟨⟨c0, c1, c2⟩, r0, r1, r2, r3⟩ := hK4.cells
          by_cases hll : l < wt.length
          · have hqe := lenQ.out
            obtain ⟨gc, qc, hgc, hgcB, hgcl, hgq1, hgq2⟩ := hcn4.there (by omega)
            cases hgc
            obtain ⟨g4, q4', hg4, hg4B, hg4l, hg4q1, hg4q2⟩ := hK4.h4.there (by omega)
            cases hg4
            have x1 := hcn4.cells (g := gc) rfl l _ (wrd_get Q.ws l (by omega))
            have x2 := hK4.h4.cells (g := g4) rfl l _ (wrd_get Q.ws l (by omega))
            generalize Q.ws[l]?.getD 0 = xv at x1 x2
            have b3 : (xv != xv) = false := by simp
            have b4 : l < Q.ws.length := by omega
            replace hqe := Mr.hid hqe
            replace hK4 := Mr.hid hK4
            replace hcn4 := Mr.hid hcn4
            go_upto_region 30 with fail
            go_quiet (fail)
            go_wp2
            go_roundg (gk - 1)
            case measure => omega
            case rel => exact ⟨l + 1, by simp, by omega, hK4.out.drewN _, has_drewN hcn4.out _⟩
          · replace hK4 := Mr.hid hK4
            go_wp2
            go_ret
            exact ⟨by simp, hK4.out.bel⟩
theorem accounts_law (th : Int) (a : Option Addr) (n cap : Nat) (ws : List Int) (am : Option Addr) (nm cm : Nat) (ms : List Mv) (w : World) (hs : Src w a n cap ws) (hm : MvAt w am nm ms) (hn : n ≤ cap) (hnm : nm ≤ cm) :
    Calls Try.prog 3 #[.agg #[.int .i64 th, .slice a n cap, .slice am nm cm]] w fun e w' => e = .returned (.bool true) ∧ Below w.heap.size w w' :=
  accounts_walk w th a n cap am nm cm hn hnm ws ms hs hm
end Go.Proofs.Ytiobchadjcekcab.Ma
