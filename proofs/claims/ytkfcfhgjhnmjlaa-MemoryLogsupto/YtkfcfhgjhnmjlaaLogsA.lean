/-
  THE LAW MemoryLogs.
-/
import Derived.Test.YtkfcfhgjhnmjlaaLogsB
import Derived.Deep.RegionHeld3
import Derived.LoopN
namespace Go.Proofs.Ytkfcfhgjhnmjlaa.Me
open Go.RowKit Go.Shelf Mr
set_option linter.unusedVariables false
set_option maxHeartbeats 4000000 in
set_option maxRecDepth 100000 in
theorem law_logs (a : Option Addr) (n cap : Nat) (ws : List Int) (a1 : Option Addr) (n1 c1 : Nat) (os1 : List O) (a2 : Option Addr) (n2 c2 : Nat) (os2 : List O) (fr : Int) (bk : Bool) (w : World)
    (hs : Src w a n cap ws) (ho1 : OpsAt w a1 n1 os1) (hr1 : os1.length ≤ 1048576) (ho2 : OpsAt w a2 n2 os2) (hr2 : os2.length ≤ 1048576) (hfr : (Lit.int .i64 fr).wf = true) :
    Calls Try.prog 3 #[.slice a n cap, .slice a1 n1 c1, .slice a2 n2 c2, .int .i64 fr, .bool bk] w fun e w' => e = .returned (.bool true) ∧ Below w.heap.size w w' := by
  by_cases hbig : 8192 < n
  · have hd : decide (8192 < (n : Int)) = true := by simp; omega
    go_enter Try.func3, Try.ntmps3
    go_wp2_with (go_at_call 4; refine (awake_any _).mono ?_; rintro e w1 ⟨rfl, hB1⟩; simp only [World.size_alloc] at hB1; have hb : Boxed w1 (w.heap.size + 1 + 1 + 1) 4 (.bool false) := ((hB1.block _ (by simp)).trans (by have := Boxed.new (((w.alloc (.cells #[.slice a2 n2 c2] 23)).alloc (.cells #[.int .i64 fr] 3)).alloc (.cells #[.bool bk] 4)) 4 (.bool false); simp only [World.size_alloc] at this; exact this)); have hc := hb.cell; have hf := hb.frozen; replace hB1 := Mr.hid hB1; replace hb := Mr.hid hb)
    refine bodyPost_ret (v := .bool true) (by have h := (hb.out.set (.bool true)).cell; simp [results, Try.results3, go_sem, h]) rfl ⟨rfl, ?_⟩
    have hB0 : Below w.heap.size w ((((w.alloc (.cells #[.slice a2 n2 c2] 23)).alloc (.cells #[.int .i64 fr] 3)).alloc (.cells #[.bool bk] 4)).alloc (.cells #[.bool false] 4)) := ((((Below.refl _ w).alloc (Nat.le_refl _) _).alloc (by simp) _).alloc (by simp; omega) _).alloc (by simp; omega) _
    exact (hB0.trans (hB1.out.mono (by omega))).setCell (p := ⟨w.heap.size + 1 + 1 + 1, 0, none⟩) (by show w.heap.size ≤ w.heap.size + 1 + 1 + 1; omega) _
  have hd : decide (8192 < (n : Int)) = false := by simp; omega
  have hn8 : n ≤ 8192 := by omega
  have C := fun (W' : World) (hW : Below w.heap.size w W') => made_any _ _ _ _ _ (hs.below hW) (by omega)
  obtain ⟨hnl1, ho1'⟩ := id ho1
  subst hnl1
  obtain ⟨hnl2, ho2'⟩ := id ho2
  subst hnl2
  clear ho1' ho2'
  obtain ⟨z, hz⟩ : ∃ z : St, z = ⟨ws, [], []⟩ := ⟨_, rfl⟩
  have hpz : Pl ws z := by rw [hz]; exact Pl.zero ws
  simp only [← hz] at C
  have enf := run_eql_func_nil
  refine (callsIn_wide (n := 5)).1 ?_
  refine callsIn_of_wp_marks Try.func3 rfl trivial ?_ rfl
  simp only [Try.ntmps3, List.size_toArray, List.length_cons, List.length_nil, Nat.reduceAdd, Nat.reduceSub, Array.replicate_succ, Array.replicate_zero, List.push_toArray, List.append_toArray, List.nil_append, List.cons_append]
  refine wpIn_wide.2 ?_
  have hB4 : ∀ o1 o2 o3 o4, Below w.heap.size w ((((w.alloc o1).alloc o2).alloc o3).alloc o4) := fun o1 o2 o3 o4 => ((((Below.refl _ w).alloc (Nat.le_refl _) o1).alloc (by simp) o2).alloc (by simp; omega) o3).alloc (by simp; omega) o4
  go_wp2_with (first
    | (go_at_call 5; refine (C _ (hB4 _ _ _ _)).mono ?_; clear C; rintro e w1 ⟨b, rfl, hM, hB1⟩; simp only [World.size_alloc] at hB1 hM; have x1 : w1.cell? ⟨w.heap.size + 1, 0, none⟩ = some (.int .i64 fr) := ((hB1.cell (p := ⟨w.heap.size + 1, 0, none⟩) (by simp)).trans (by simp [go_sem])); have xs := hB1.size; simp only [World.size_alloc] at xs; have xlt : w.heap.size + 1 < w1.heap.size := (by omega); replace hM := Mr.hid hM; replace hB1 := Mr.hid hB1)
    | (go_at_call 6; refine (log_any _ _ _).mono ?_; rintro e w' ⟨rfl, rfl⟩))
  obtain ⟨S1, hq1, hS1⟩ := MemP.tight (MemP.zero hM.out)
  obtain ⟨W2, hW2⟩ : ∃ W2, (((w1.alloc (Obj.cells #[Value.pointer (some { block := b, off := 0 })] 25)).alloc (Obj.cells #[Value.pointer (some { block := b, off := 0 })] 25)).alloc (Obj.cells #[Value.int IntKind.i64 fr] 3)) = W2 := ⟨_, rfl⟩
  rw [hW2]
  obtain ⟨B1, hB1e⟩ : ∃ B1, w1.heap.size = B1 := ⟨_, rfl⟩
  have hBW : Below w1.heap.size w1 W2 := by rw [← hW2]; exact (((Below.refl _ w1).alloc (Nat.le_refl _) _).alloc (by simp) _).alloc (by simp; omega) _
  have K1 : Kx w W2 B1 b (.slice a2 os2.length c2) fr bk S1 := by
    have up : ∀ {B t : Nat} {v : Value}, Boxed ((((w.alloc (.cells #[.slice a2 os2.length c2] 23)).alloc (.cells #[.int .i64 fr] 3)).alloc (.cells #[.bool bk] 4)).alloc (.cells #[.bool false] 4)) B t v → Boxed W2 B t v := fun {B t v} hb => by
      have hlt := hb.lt
      simp only [World.size_alloc] at hlt
      exact (hBW.block B (by omega)).trans ((hB1.out.block B hlt).trans hb)
    refine ⟨up ?_, up ?_, up ?_, up ?_, ?_, ?_, ?_, ?_, ?_, by omega⟩
    · exact (((Boxed.new w _ _).alloc _).alloc _).alloc _
    · have := Boxed.new (w.alloc (.cells #[.slice a2 os2.length c2] 23)) 3 (.int .i64 fr)
      rw [World.size_alloc] at this
      exact (this.alloc _).alloc _
    · have := Boxed.new ((w.alloc (.cells #[.slice a2 os2.length c2] 23)).alloc (.cells #[.int .i64 fr] 3)) 4 (.bool bk)
      rw [World.size_alloc, World.size_alloc] at this
      exact this.alloc _
    · have := Boxed.new (((w.alloc (.cells #[.slice a2 os2.length c2] 23)).alloc (.cells #[.int .i64 fr] 3)).alloc (.cells #[.bool bk] 4)) 4 (.bool false)
      rw [World.size_alloc, World.size_alloc, World.size_alloc] at this
      exact this
    · rw [← hW2, ← hB1e]; exact ((Boxed.new w1 _ _).alloc _).alloc _
    · have := Boxed.new (w1.alloc (.cells #[.pointer (some ⟨b, 0, none⟩)] 25)) 25 (.pointer (some ⟨b, 0, none⟩))
      rw [World.size_alloc] at this
      rw [← hW2, ← hB1e]; exact this.alloc _
    · have := Boxed.new ((w1.alloc (.cells #[.pointer (some ⟨b, 0, none⟩)] 25)).alloc (.cells #[.pointer (some ⟨b, 0, none⟩)] 25)) 3 (.int .i64 fr)
      rw [World.size_alloc, World.size_alloc] at this
      rw [← hW2, ← hB1e]; exact this
    · intro k hk
      have h1 := hS1 k hk
      have h2 := hq1.lt k hk
      omega
    · exact ((hB4 _ _ _ _).trans (hB1.out.mono (by omega))).trans (hBW.mono (by omega))
  have Q1 : Mq W2 S1 b z (.slice none 0 0) 0 [] := hq1.below hBW
  rw [hB1e]
  clear hq1 hS1 hM hB1 hBW hW2 x1 xs xlt hB4 hB1e
  have lgle : ∀ os, (runF z os).lg.length ≤ os.length := fun os => by
    obtain ⟨l, e, hl⟩ := runF_lg z os
    rw [e, hz]
    simpa using hl
  go_loopg [13] os1.length (fun k s wr => ∃ (i : Nat) (S : Nat → Prop), s = .int .i64 (i : Int) ∧ i + k = os1.length ∧ Mq wr S b (runF z (os1.take i)) (.slice none 0 0) 0 [] ∧ Kx w wr B1 b (.slice a2 os2.length c2) fr bk S)
  case atStart => exact ⟨0, S1, rfl, by omega, Q1, K1⟩
  case round =>
    obtain ⟨i, S, rfl, hi, Q2, K2⟩ := hrel
    clear Q1 K1
    by_cases hlt : i < os1.length
    · have hroom : Roomy (runF z (os1.take i)).lg (runF z (os1.take i)).ah := roomy_small (hpz.runF _) (by have := lgle (os1.take i); rw [List.length_take] at this; omega)
      have D := (Q2.below (W' := wr.drew) (Below.refl _ _).drew).access hroom (os1[i]?.getD noO)
      have K3 : ∀ w3 S', Tch wr.drew w3 S S' → Kx w w3 B1 b (.slice a2 os2.length c2) fr bk S' := fun w3 S' h => (K2.below (W' := wr.drew) (Below.refl _ _).drew).tch h
      rcases ho1.2 with h0 | ⟨bo, oo, rfl, hbo, hc⟩
      · rw [h0] at hlt; simp at hlt
      have hcW := fun (W' : World) (hB : Below w.heap.size w W') (q : Nat) (u : Value) (hu : w.cell? ⟨bo, q, none⟩ = some u) => (hB.cell (p := ⟨bo, q, none⟩) hbo).trans hu
      obtain ⟨c0, c1, c2, c3, c4, c5⟩ := hc i hlt
      have hsn := runF_snoc z os1 i hlt
      replace hsn := Mr.hid hsn
      have km := K2.m.cell
      clear hc ho1 hs hroom ho2 hpz lgle
      replace Q2 := Mr.hid Q2
      replace K2 := Mr.hid K2
      generalize os1[i]?.getD noO = o at *
      have g0 := hcW wr K2.out.bel _ _ c0
      have g1 := hcW wr K2.out.bel _ _ c1
      have g2 := hcW wr K2.out.bel _ _ c2
      have g3 := hcW wr K2.out.bel _ _ c3
      have g4 := hcW wr K2.out.bel _ _ c4
      have g5 := hcW wr K2.out.bel _ _ c5
      go_wp2_with fail
      go_region_held3 (fun w' => w'.cell? ⟨B1, 0, none⟩ = some (.pointer (some ⟨b, 0, none⟩)) ∧ w'.cell? ⟨bo, oo + i * 6, none⟩ = some (.int .i64 o.k) ∧ w'.cell? ⟨bo, oo + i * 6 + 1, none⟩ = some (.int .i64 o.th) ∧ w'.cell? ⟨bo, oo + i * 6 + 2, none⟩ = some (.int .i64 o.ad) ∧ w'.cell? ⟨bo, oo + i * 6 + 3, none⟩ = some (.int .i64 o.n) ∧ w'.cell? ⟨bo, oo + i * 6 + 4, none⟩ = some (.int .u64 o.old) ∧ w'.cell? ⟨bo, oo + i * 6 + 5, none⟩ = some (.int .u64 o.w)) (go_keep)
        (first | (go_at_call 7; refine D.mono ?_; clear D; rintro e w3 ⟨rfl, S3, Q3, T3⟩; have K4 := K3 w3 S3 T3; clear K3 T3; have km3 := K4.m.cell; have f0 := hcW w3 K4.bel _ _ c0; have f1 := hcW w3 K4.bel _ _ c1; have f2 := hcW w3 K4.bel _ _ c2; have f3 := hcW w3 K4.bel _ _ c3; have f4 := hcW w3 K4.bel _ _ c4; have f5 := hcW w3 K4.bel _ _ c5; clear hcW c0 c1 c2 c3 c4 c5; replace Q3 := Mr.hid Q3; replace K4 := Mr.hid K4))
      go_wp2_with fail
      go_roundg (gk - 1)
      case measure => omega
      case rel => exact ⟨i + 1, S3, by simp, by omega, by rw [hsn.out]; exact Q3.out, K4.out⟩
    · obtain rfl : i = os1.length := by omega
      rw [List.take_length] at Q2
      have hp1 : Pl ws (runF z os1) := hpz.runF os1
      have hl1 : (runF z os1).lg.length ≤ 1048576 := Nat.le_trans (lgle os1) hr1
      generalize runF z os1 = s1 at *
      clear lgle hpz hi hlt ho1 hz
      have hBn : ∀ o, Below wr.heap.size wr (wr.alloc o) := fun o => (Below.refl _ _).alloc (Nat.le_refl _) o
      have K3 := fun o => K2.below (hBn o)
      have Q3 := fun o => Q2.below (hBn o)
      have nS : ¬ S wr.heap.size := fun h => by have := Q2.lt _ h; omega
      have e3 : B1 + 1 + 1 < wr.heap.size := K2.lf.lt
      replace K3 := Mr.hid K3
      replace Q3 := Mr.hid Q3
      replace nS := Mr.hid nS
      replace ho2 := Mr.hid ho2
      replace hp1 := Mr.hid hp1
      clear Q2 K2
      go_wp2_with fail
      refine wp_loop_rounds 3 ?_
      rw [rounds_succ]
      refine round_logs (r := 0) (K3.out _) ho2.out hr2 hfr rfl (Q3.out _) hp1.out (by omega) (by decide) (Boxed.new _ _ _) nS.out e3 (fun D1 Br2 W3 t3 S3 u15 u16 u17 u18 u19 u20 u21 u22 u23 u24 u25 u26 u27 u28 u29 u30 u31 u32 u33 u34 u35 u36 u37 u38 u39 u40 u41 u42 u43 u44 u45 u46 u47 u48 u49 u50 u51 u52 u53 u54 u55 u56 u57 u58 u59 u60 u61 u62 u63 u64 u65 u66 u67 u68 u69 u70 u71 u72 u73 u74 u75 u76 u77 u78 u79 u80 u81 u82 u83 u84 u85 u86 u87 u88 u89 u90 u91 u92 u93 u94 u95 u96 u97 u98 u99 u100 u101 u102 u103 u104 u105 u106 u107 u108 u109 u110 u111 u112 u113 u114 u115 u116 u117 u118 u119 u120 u121 u122 u123 u124 u125 u126 u127 K4 Q4 p4 l4 br4 nr4 e4 o4 hD4 hd4 => ?_)
      clear K3 Q3 nS
      refine (?_ : Code.rounds _ _ _ 2 _ _)
      rw [rounds_succ]
      refine round_logs (r := 1) K4 ho2.out hr2 hfr rfl Q4 p4 (by omega) (by decide) br4 nr4 e4 (fun D2 Br3 W5 t5 S5 v15 v16 v17 v18 v19 v20 v21 v22 v23 v24 v25 v26 v27 v28 v29 v30 v31 v32 v33 v34 v35 v36 v37 v38 v39 v40 v41 v42 v43 v44 v45 v46 v47 v48 v49 v50 v51 v52 v53 v54 v55 v56 v57 v58 v59 v60 v61 v62 v63 v64 v65 v66 v67 v68 v69 v70 v71 v72 v73 v74 v75 v76 v77 v78 v79 v80 v81 v82 v83 v84 v85 v86 v87 v88 v89 v90 v91 v92 v93 v94 v95 v96 v97 v98 v99 v100 v101 v102 v103 v104 v105 v106 v107 v108 v109 v110 v111 v112 v113 v114 v115 v116 v117 v118 v119 v120 v121 v122 v123 v124 v125 v126 v127 K6 Q6 p6 l6 br6 nr6 e6 o6 hD6 hd6 => ?_)
      refine (?_ : Code.rounds _ _ _ 1 _ _)
      rw [rounds_succ]
      have hd5 : W5.heap[D1]? = some (.deferred (some [])) := o6.same _ _ hd4 rfl
      have hne : D2 ≠ D1 := by
        have h1 : D1 < W3.heap.size := (Array.getElem?_eq_some_iff.1 hd4).1
        omega
      have xr := br6.cell
      have xq := K6.res.cell
      have fq := K6.res.frozen
      have rb := K6.res
      have rl := rb.lt
      have neq : ∀ D, W5.heap[D]? = some (.deferred (some [])) → D ≠ w.heap.size + 1 + 1 + 1 := fun D h e => by rw [e] at h; rw [show W5.heap[w.heap.size + 1 + 1 + 1]? = _ from rb] at h; cases h
      have ne1 := neq D1 hd5
      have ne2 := neq D2 hd6
      have fin : ∀ W9, W9 = ((W5.setCell ⟨w.heap.size + 1 + 1 + 1, 0, none⟩ (.bool true)).putObj D2 (.deferred none)).putObj D1 (.deferred none) → Below w.heap.size w W9 ∧ W9.cell? ⟨w.heap.size + 1 + 1 + 1, 0, none⟩ = some (.bool true) := by
        intro W9 e
        subst e
        have h1 : Boxed (W5.setCell ⟨w.heap.size + 1 + 1 + 1, 0, none⟩ (.bool true)) (w.heap.size + 1 + 1 + 1) 4 (.bool true) := rb.set _
        have h2 : Boxed (((W5.setCell ⟨w.heap.size + 1 + 1 + 1, 0, none⟩ (.bool true)).putObj D2 (.deferred none)).putObj D1 (.deferred none)) (w.heap.size + 1 + 1 + 1) 4 (.bool true) := (World.putObj_heap_other (fun e => ne1 e.symm)).trans ((World.putObj_heap_other (fun e => ne2 e.symm)).trans h1)
        refine ⟨?_, h2.cell⟩
        have hw2 : w.heap.size ≤ D2 := by have := K6.bel.size; have := K4.bel.size; omega
        have hw1 : w.heap.size ≤ D1 := by have := e3; have := K4.up; simp only [World.size_alloc] at hD4; omega
        have hb1 := K6.bel.setCell (p := ⟨w.heap.size + 1 + 1 + 1, 0, none⟩) (by show w.heap.size ≤ w.heap.size + 1 + 1 + 1; omega) (.bool true)
        have hb2 := hb1.grown (grownBy_putObj' _ D2 (.deferred none)) hb1.size (fun k hk => by cases hk; exact hw2)
        exact hb2.grown (grownBy_putObj' _ D1 (.deferred none)) hb2.size (fun k hk => by cases hk; exact hw1)
      replace fin := Mr.hid fin
      clear K4 Q4 p4 l4 br4 nr4 o4 hd4 K6 Q6 p6 l6 br6 nr6 o6 rb neq
      replace hd5 := Mr.hid hd5
      replace hd6 := Mr.hid hd6
      go_wp2
      have hd6' : (W5.setCell ⟨w.heap.size + 1 + 1 + 1, 0, none⟩ (.bool true)).heap[D2]? = some (.deferred (some [])) := (Below.heap_setCell _ _ _ D2 ne2).trans hd6.out
      have hd5' : ((W5.setCell ⟨w.heap.size + 1 + 1 + 1, 0, none⟩ (.bool true)).putObj D2 (.deferred none)).heap[D1]? = some (.deferred (some [])) := (World.putObj_heap_other (fun e => hne e.symm)).trans ((Below.heap_setCell _ _ _ D1 ne1).trans hd5.out)
      refine ⟨by simp, .inl ⟨_, _, rfl, run_takeDeferred hd6', ⟨by simp, .inl ⟨_, _, rfl, run_takeDeferred hd5', ?_⟩⟩⟩⟩
      obtain ⟨f1, f2⟩ := fin.out _ rfl
      exact ⟨.bool true, by simp [results, Try.f3, go_sem, f2], rfl, f1⟩
end Go.Proofs.Ytkfcfhgjhnmjlaa.Me
