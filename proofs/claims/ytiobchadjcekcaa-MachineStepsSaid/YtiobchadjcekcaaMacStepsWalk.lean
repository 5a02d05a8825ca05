/-
  MachineSteps: the walk.
-/
import Derived.Test.YtiobchadjcekcaaMacKp
import Derived.Test.YtiobchadjcekcaaMacStepsP
namespace Go.Proofs.Ytiobchadjcekcaa.Ma
open Go.RowKit Go.Shelf Mr Me
theorem info_bool : (Try.prog.info? 4).map (fun i => (i.zero, i.size, i.bytes)) = some (some (.bool false), 1, 1) := by kernel_rfl
theorem make_bools (W : World) (n : Nat) (hn : n ≤ 1000) :
    (Instr.makeSlice 54 (.int .i64 (n : Int)) (.int .i64 (n : Int))).run Try.prog W = .ok (.slice (some ⟨W.heap.size, 0, none⟩) n n) (W.alloc (.cells (madeCells #[.bool false] n) 4)) := by
  obtain ⟨i0, hi, hz0, hz1, hz2⟩ := info_parts info_bool
  have h := run_make (P := Try.prog) W 54 4 i0 (.bool false) Try.underlying54 hi hz0 .i64 .i64 n n (by omega) (Int.le_refl _) (by rw [hz2]; omega) (by omega)
  rw [hz1, Nat.mul_one] at h
  simpa [Value.cells] using h
def bls (l : List Bool) : List Value := l.map Value.bool
theorem bls_get (l : List Bool) (i : Nat) (b : Bool) (h : l[i]? = some b) : (bls l)[i]? = some (.bool b) := by simp [bls, h]
theorem bls_set (l : List Bool) (i : Nat) (b : Bool) : (bls l).set i (.bool b) = bls (l.set i b) := by simp [bls, List.map_set]
theorem bz_new (nth : Nat) (ws : List Int) : bz (Pm.new nth ws) = List.replicate nth false := by simp [bz, Pm.new, PT.busy]
theorem made_bools (W : World) (S : Nat → Prop) (n : Nat) (hn : n ≤ 1000) (hS : S W.heap.size) : Has (W.alloc (.cells (madeCells #[.bool false] n) 4)) S 4 1 (.slice (some ⟨W.heap.size, 0, none⟩) n n) n (bls (List.replicate n false)) := by
  refine ⟨by simp [bls], .inr ⟨_, n, _, rfl, hS, heap_alloc_new W _, Nat.le_refl _, by unfold maxLen; omega, by rw [size_madeCells]; omega, ?_⟩⟩
  have hsz : (madeCells #[Value.bool false] n).size = n := size_madeCells _ _
  apply List.ext_getElem?
  intro j
  rw [Nat.mul_one, List.getElem?_take]
  by_cases hj : j < n
  · rw [if_pos hj]
    simp [bls, madeCells, hj, Nat.mod_one]
  · rw [if_neg hj, List.getElem?_eq_none (by simp [bls]; omega)]
set_option maxRecDepth 100000 in
set_option maxHeartbeats 2000000 in
theorem steps_walk (w : World) (th : Int) (a : Option Addr) (n cap : Nat) (am : Option Addr) (nm cm : Nat) (hn : n ≤ cap) (hnm : nm ≤ cm) (ws : List Int) (ms : List Mv) (hs : Src w a n cap ws) (hm : MvAt w am nm ms) :
    Calls Try.prog 5 #[.agg #[.int .i64 th, .slice a n cap, .slice am nm cm]] w fun e w' => e = .returned (.bool true) ∧ Below w.heap.size w w' := by
  have PL := fun (W : World) (hB : Below w.heap.size w W) => play_any W th a n cap am nm cm hn hnm ws ms (hs.below hB) (hm.below hB)
  have hs' := (src_take hs 8192).1
  have hmt := (hm.take 65536)
  unfold Playd at PL
  generalize hQ : (Pm.new (fitT th) (ws.take 8192)).play (ms.take 65536) = Q at PL
  have hfp := fitT_pos th
  generalize fitT th = ft at PL hQ hfp
  generalize hm1 : min n 8192 = m1 at PL hs'
  generalize hm2 : min nm 65536 = m2 at PL hmt
  generalize ws.take 8192 = wt at *
  generalize ms.take 65536 = mt at *
  replace hQ := Mr.hid hQ
  have hm1' : m1 ≤ 8192 := by omega
  replace hm1 := Mr.hid hm1
  replace hm2 := Mr.hid hm2
  replace hs' := Mr.hid hs'
  replace hmt := Mr.hid hmt
  clear hs hm
  have hb0 : ∀ (o : Obj), (w.alloc o).heap[w.heap.size]? = some o := fun o => heap_alloc_new w o
  have hB0 := fun o => (Below.refl w.heap.size w).alloc (Nat.le_refl _) o
  go_enter Try.func5, Try.ntmps5
  go_upto_region 4 with (first
    | (go_at_call 14; refine (PL _ (hB0 _)).mono ?_; clear PL; rintro e w1 ⟨v1, v2, v4, rfl, hv1, hv2, hv4, hB1⟩; have hs1 := (hB1.block w.heap.size (by simp)).trans (hb0 _); have c0 : w1.cell? ⟨w.heap.size, 0, none⟩ = some (.int .i64 th) := (by simp [World.cell?, hs1]); have c1 : w1.cell? ⟨w.heap.size, 1, none⟩ = some (.slice a n cap) := (by simp [World.cell?, hs1]); have c2 : w1.cell? ⟨w.heap.size, 2, none⟩ = some (.slice am nm cm) := (by simp [World.cell?, hs1]); have c3 : ∀ j, w1.frozen? ⟨w.heap.size, j, none⟩ = false := (fun j => by simp [World.frozen?, hs1]); have lt1 : w.heap.size < w1.heap.size := (Array.getElem?_eq_some_iff.1 hs1).1; have Bw1 : Below w.heap.size w w1 := (hB0 _).trans (hB1.mono (by simp)); simp only [World.size_alloc] at hv1 hv2 hv4; replace hs1 := Mr.hid hs1; clear hB1; replace Bw1 := Mr.hid Bw1; obtain ⟨p1, q1, rfl, _⟩ := hv1.form; obtain ⟨p2, q2, rfl, _⟩ := hv2.form; obtain ⟨p4, q4, rfl, _⟩ := hv4.form; replace hv1 := Mr.hid hv1; replace hv2 := Mr.hid hv2; replace hv4 := Mr.hid hv4)
    | fail)
  have K2 := kp_open (x := .int .i64 (ft : Int)) (y := .slice a m1 cap) (z := .slice am m2 cm) hs1.out Bw1.out hv1.out hv2.out hv4.out
  generalize (((w1.setCell ⟨w.heap.size, 0, none⟩ (.int .i64 (ft : Int))).setCell ⟨w.heap.size, 1, none⟩ (.slice a m1 cap)).setCell ⟨w.heap.size, 2, none⟩ (.slice am m2 cm)).alloc (.cells #[.slice p1 Q.cls.length q1, .slice p2 Q.lg.length q2, .slice none 0 0, .slice p4 Q.ws.length q4] 41) = W2 at *
  have z2 : w1.heap.size < W2.heap.size := (Array.getElem?_eq_some_iff.1 K2.r0).1
  have z2' : w.heap.size < W2.heap.size := by omega
  clear c0 c1 c2 c3 hs1 Bw1 hv1 hv2 hv4 hb0 hB0
  generalize w1.heap.size = B at *
  obtain ⟨⟨c0, c1, c2⟩, r0, r1, r2, r3⟩ := K2.cells
  have hml := hmt.out.1
  have hlen : mt.length ≤ 65536 := by have := hm2.out; omega
  have hwl : m1 = wt.length := hs'.out
  subst hml
  subst hwl
  have hmk := fun u => make_bools u ft (by omega)
  have hmb := made_bools W2 (fun k => B < k) ft (by omega) z2
  have hK3 := K2.below ((Below.refl _ _).alloc (Nat.le_refl _) (.cells (madeCells #[.bool false] ft) 4))
  have z3 : W2.heap.size < (W2.alloc (.cells (madeCells #[.bool false] ft) 4)).heap.size := by simp
  have b0 : ((Pk ft wt mt 0).cls.length : Int) = 0 := by simp [Pk, Pm.play, Pm.new]
  have b1 : ((Pk ft wt mt 0).lg.length : Int) = 0 := by simp [Pk, Pm.play, Pm.new]
  have b2 : bz (Pk ft wt mt 0) = List.replicate ft false := by simp [Pk, Pm.play, bz_new]
  replace b0 := Mr.hid b0
  replace b1 := Mr.hid b1
  replace b2 := Mr.hid b2
  replace K2 := Mr.hid K2
  replace hK3 := Mr.hid hK3
  replace hmb := Mr.hid hmb
  replace hlen := Mr.hid hlen
  go_wp2
  go_loopg [6, 7, 27] mt.length (fun k s6 s7 s27 wr => ∃ i : Nat, s6 = .int .i64 ((Pk ft wt mt i).cls.length : Int) ∧ s7 = .int .i64 ((Pk ft wt mt i).lg.length : Int) ∧ s27 = .int .i64 (i : Int) ∧ i + k = mt.length ∧ Kp w wr B (.int .i64 (ft : Int)) (.slice a wt.length cap) (.slice am mt.length cm) (.slice p1 Q.cls.length q1) (.slice p2 Q.lg.length q2) (.slice p4 Q.ws.length q4) Q ∧ Has wr (fun k => B < k) 4 1 (.slice (some ⟨W2.heap.size, 0, none⟩) ft ft) ft (bls (bz (Pk ft wt mt i))))
  case atStart => exact ⟨0, by rw [b0.out], by rw [b1.out], rfl, by omega, hK3.out, by rw [b2.out]; exact hmb.out⟩
  case round =>
    obtain ⟨i, rfl, rfl, rfl, hi, hK, hbz⟩ := hrel
    obtain ⟨gk1, hgk1⟩ : ∃ gk1, gk1 = gk := ⟨_, rfl⟩
    clear c0 c1 c2 r0 r1 r2 r3 K2 hK3 hmb b0 b1 b2 z3 hmk
    obtain ⟨⟨c0, c1, c2⟩, r0, r1, r2, r3⟩ := hK.cells
    have hgl : W2.heap.size < wr.heap.size := (hbz.lt _ rfl).2
    have hBl : B < wr.heap.size := (Array.getElem?_eq_some_iff.1 hK.r0).1
    have hwl' : w.heap.size < wr.heap.size := (Array.getElem?_eq_some_iff.1 hK.s0).1
    by_cases hlt : i < mt.length
    · have sx := pk_sx ft wt mt hlen.out i hlt
      rw [hQ.out] at sx
      rcases hmt.out.2 with h0 | ⟨bo, oo, rfl, hbo, hc⟩
      · rw [h0] at hlt; simp at hlt
      obtain ⟨d0, d1, d2, d3⟩ := hc i hlt
      have hcW := fun (j : Nat) (u : Value) (hu : w.cell? ⟨bo, j, none⟩ = some u) => (hK.bel.cell (p := ⟨bo, j, none⟩) hbo).trans hu
      have g0 := hcW _ _ d0
      have g1 := hcW _ _ d1
      have g2 := hcW _ _ d2
      have g3 := hcW _ _ d3
      have hbol : bo < wr.heap.size := by omega
      clear hc hcW d0 d1 d2 d3
      obtain ⟨P, hP⟩ : ∃ P, Pk ft wt mt i = P := ⟨_, rfl⟩
      obtain ⟨P', hP'⟩ : ∃ P', Pk ft wt mt (i + 1) = P' := ⟨_, rfl⟩
      rw [hP] at sx hbz
      rw [hP]
      rw [hP'] at sx
      generalize mt[i]?.getD noMv = m at *
      have hfz := hbz.frozen (g := W2.heap.size) rfl
      replace hP := Mr.hid hP
      replace hP' := Mr.hid hP'
      have hl2 := hlen.out
      cases sx with
      | out h hc hl hb => as_aux_lemma =>
        have e1 : decide (m.th < 0) = true ∨ (decide (m.th < 0) = false ∧ decide ((ft : Int) ≤ m.th) = true) := by
          by_cases h0 : m.th < 0
          · exact .inl (by simpa using h0)
          · exact .inr ⟨by simpa using h0, by simp; omega⟩
        replace hK := Mr.hid hK
        replace hbz := Mr.hid hbz
        replace hc := Mr.hid hc
        replace hl := Mr.hid hl
        replace hb := Mr.hid hb
        clear h
        rcases e1 with e1 | ⟨e1, e2⟩ <;> go_wp2 <;> go_roundg (gk - 1)
        case measure => omega
        case rel => exact ⟨i + 1, by rw [hP'.out, hc.out], by rw [hP'.out, hl.out], by simp, by omega, hK.out.below ((Below.refl _ _).alloc (Nat.le_refl _) _), by rw [hP'.out, hb.out]; exact hbz.out.alloc _⟩
        case measure => omega
        case rel => exact ⟨i + 1, by rw [hP'.out, hc.out], by rw [hP'.out, hl.out], by simp, by omega, hK.out.below ((Below.refl _ _).alloc (Nat.le_refl _) _), by rw [hP'.out, hb.out]; exact hbz.out.alloc _⟩
      | rest tn h0 h1 b ht hd hc hl hb => as_aux_lemma =>
        rw [h0] at g0
        have x0 := hbz.cells (g := W2.heap.size) rfl tn _ (bls_get _ _ _ ht)
        have e0 : decide ((tn : Int) < 0) = false := by simp
        have e1 : decide ((ft : Int) ≤ (tn : Int)) = false := by simp; omega
        have e2 : decide (ft ≤ tn) = false := by simp; omega
        have hop : (m.op = 0 ∧ b = false) ∨ ((m.op == 0) = false ∧ ((m.op == 1) = false ∧ (m.op == 2) = false)) ∨ ((m.op = 1 ∨ m.op = 2) ∧ (b = true ∨ (b = false ∧ (decide (0 ≤ m.arg) = false ∨ (decide (0 ≤ m.arg) = true ∧ decide (m.arg < (wt.length : Int)) = false))))) := by
          rcases hd with hd | ⟨h, hd⟩
          · exact .inl hd
          · by_cases h12 : m.op = 1 ∨ m.op = 2
            · refine .inr (.inr ⟨h12, ?_⟩)
              cases b with
              | true => exact .inl rfl
              | false =>
                refine .inr ⟨rfl, ?_⟩
                rcases hd with hd | hd
                · cases hd
                · by_cases ha : 0 ≤ m.arg
                  · refine .inr ⟨by simpa using ha, ?_⟩
                    have : ¬ m.arg < (wt.length : Int) := fun h' => hd ⟨h12, ha, h'⟩
                    simpa using this
                  · exact .inl (by simpa using ha)
            · exact .inr (.inl ⟨by simpa using h, by simp; omega, by simp; omega⟩)
        have hcl : (P'.cls.length : Int) = (P.cls.length : Int) := by rw [hc]
        have hll : (P'.lg.length : Int) = (P.lg.length : Int) := by rw [hl]
        replace hK := Mr.hid hK
        replace hbz := Mr.hid hbz
        replace hcl := Mr.hid hcl
        replace hll := Mr.hid hll
        replace hb := Mr.hid hb
        replace h0 := Mr.hid h0
        replace ht := Mr.hid ht
        clear hd hc hl
        have fin : ∀ (o : Obj), ∃ i' : Nat, (Value.int .i64 (P.cls.length : Int)) = .int .i64 ((Pk ft wt mt i').cls.length : Int) ∧ (Value.int .i64 (P.lg.length : Int)) = .int .i64 ((Pk ft wt mt i').lg.length : Int) ∧ (Value.int .i64 ((i : Int) + 1)) = .int .i64 (i' : Int) ∧ i' + (gk - 1) = mt.length ∧ Kp w (wr.alloc o) B (.int .i64 (ft : Int)) (.slice a wt.length cap) (.slice (some ⟨bo, oo, none⟩) mt.length cm) (.slice p1 Q.cls.length q1) (.slice p2 Q.lg.length q2) (.slice p4 Q.ws.length q4) Q ∧ Has (wr.alloc o) (fun k => B < k) 4 1 (.slice (some ⟨W2.heap.size, 0, none⟩) ft ft) ft (bls (bz (Pk ft wt mt i'))) :=
          fun o => ⟨i + 1, by rw [hP'.out, hcl.out], by rw [hP'.out, hll.out], by simp, by omega, hK.out.below ((Below.refl _ _).alloc (Nat.le_refl _) _), by rw [hP'.out, hb.out]; exact hbz.out.alloc _⟩
        replace fin := Mr.hid fin
        rcases hop with ⟨e3, rfl⟩ | ⟨e3, e4, e5⟩ | ⟨e3, e4⟩
        · rw [e3] at g1
          go_wp2
          go_roundg (gk - 1)
          case measure => omega
          case rel => exact fin.out _
        · go_wp2
          go_roundg (gk - 1)
          case measure => omega
          case rel => exact fin.out _
        · rcases e3 with e3 | e3 <;> rw [e3] at g1 <;> rcases e4 with rfl | ⟨rfl, e4 | ⟨e4, e5⟩⟩ <;> go_wp2 <;> go_roundg (gk - 1) <;> first | omega | exact fin.out _
      | begins tn h0 h1 ht hop ha0 ha1 cl hcl k0 k1 k2 k3 k4 hc hl hb => as_aux_lemma =>
        rw [h0] at g0
        have x0 := hbz.cells (g := W2.heap.size) rfl tn _ (bls_get _ _ _ ht)
        have e0 : decide ((tn : Int) < 0) = false := by simp
        have e1 : decide ((ft : Int) ≤ (tn : Int)) = false := by simp; omega
        have e2 : decide (ft ≤ tn) = false := by simp; omega
        have ncl : P.cls.length < Q.cls.length := (List.getElem?_eq_some_iff.1 hcl).1
        obtain ⟨gq, qq, hgq, ⟨hq1, hq2⟩, hql, hqn, hqx⟩ := hK.h1.there (by omega)
        cases hgq
        obtain ⟨f0, f1, f2, f3, f4, _⟩ := cl_cells hK.h1 hcl
        rw [k1] at f0
        rw [k2] at f1
        rw [k3] at f2
        rw [k4] at f3
        rw [k0] at f4
        unfold maxLen at hqx
        have e3 : decide ((Q.cls.length : Int) ≤ (P.cls.length : Int)) = false := by simp; omega
        have e4 : decide (Q.cls.length ≤ P.cls.length) = false := by simp; omega
        have e5 : decide (0 ≤ m.arg) = true := by simpa using ha0
        have e6 : decide (m.arg < (wt.length : Int)) = true := by simpa using ha1
        have e7 : (m.arg != m.arg) = false := by simp
        have e8 : (m.data != m.data) = false := by simp
        have hcl' : (P'.cls.length : Int) = (P.cls.length : Int) + 1 := by rw [hc]; simp
        have hll' : (P'.lg.length : Int) = (P.lg.length : Int) := by rw [hl]
        replace hcl' := Mr.hid hcl'
        replace hll' := Mr.hid hll'
        replace hb := Mr.hid hb
        replace h0 := Mr.hid h0
        replace ht := Mr.hid ht
        replace hcl := Mr.hid hcl
        clear hc hl k0 k1 k2 k3 k4
        have fin : ∀ (o : Obj) (nq : Nat), ∃ i' : Nat, (Value.int .i64 ((P.cls.length : Int) + 1)) = .int .i64 ((Pk ft wt mt i').cls.length : Int) ∧ (Value.int .i64 (P.lg.length : Int)) = .int .i64 ((Pk ft wt mt i').lg.length : Int) ∧ (Value.int .i64 ((i : Int) + 1)) = .int .i64 (i' : Int) ∧ i' + (gk - 1) = mt.length ∧ Kp w (((wr.alloc o).drewN nq).setCell ⟨W2.heap.size, tn, none⟩ (.bool true)) B (.int .i64 (ft : Int)) (.slice a wt.length cap) (.slice (some ⟨bo, oo, none⟩) mt.length cm) (.slice (some ⟨gq, 0, none⟩) Q.cls.length q1) (.slice p2 Q.lg.length q2) (.slice p4 Q.ws.length q4) Q ∧ Has (((wr.alloc o).drewN nq).setCell ⟨W2.heap.size, tn, none⟩ (.bool true)) (fun k => B < k) 4 1 (.slice (some ⟨W2.heap.size, 0, none⟩) ft ft) ft (bls (bz (Pk ft wt mt i'))) :=
          fun o nq => ⟨i + 1, by rw [hP'.out, hcl'.out], by rw [hP'.out, hll'.out], by simp, by omega, ((hK.below ((Below.refl _ _).alloc (Nat.le_refl _) o)).drewN nq).set ⟨W2.heap.size, tn, none⟩ z2 _, by rw [hP'.out, hb.out, ← bls_set]; exact has_put (has_drewN (hbz.alloc o) nq) tn _⟩
        replace fin := Mr.hid fin
        replace hK := Mr.hid hK
        replace hbz := Mr.hid hbz
        rcases hop with e | e <;> rw [e] at g1 f1
        · go_upto_region 12 with fail
          go_quiet (fail)
          go_wp2
          go_roundg (gk - 1)
          case measure => omega
          case rel => exact fin.out _ _
        · go_upto_region 12 with fail
          go_quiet (fail)
          go_wp2
          go_roundg (gk - 1)
          case measure => omega
          case rel => exact fin.out _ _
      | steps tn h0 h1 ht hop ac ha k0 k1 hc hl hb => as_aux_lemma =>
        rw [h0] at g0
        rw [hop] at g1
        have x0 := hbz.cells (g := W2.heap.size) rfl tn _ (bls_get _ _ _ ht)
        have e0 : decide ((tn : Int) < 0) = false := by simp
        have e1 : decide ((ft : Int) ≤ (tn : Int)) = false := by simp; omega
        have e2 : decide (ft ≤ tn) = false := by simp; omega
        have nlg : P.lg.length < Q.lg.length := (List.getElem?_eq_some_iff.1 ha).1
        obtain ⟨ga, qa, hga, ⟨ha1, ha2⟩, hal, han, hax⟩ := hK.h2.there (by omega)
        cases hga
        obtain ⟨f0, f1, _⟩ := ac_cells hK.h2 ha
        rw [k0] at f0
        rw [k1] at f1
        unfold maxLen at hax
        have e3 : decide ((Q.lg.length : Int) ≤ (P.lg.length : Int)) = false := by simp; omega
        have e4 : decide (Q.lg.length ≤ P.lg.length) = false := by simp; omega
        have hcl' : (P'.cls.length : Int) = (P.cls.length : Int) := by rw [hc]
        have hll' : (P'.lg.length : Int) = (P.lg.length : Int) + 1 := by rw [hl]; simp
        have hset : (bz P).set tn (!fins Q.cls i 0) = bz P := by
          rw [fins_zero]
          apply List.ext_getElem?
          intro j
          rw [List.getElem?_set]
          split
          · rename_i e; subst e; rw [ht]; simp; rw [bz_length] ; have := (List.getElem?_eq_some_iff.1 ht).1; rw [bz_length] at this; exact this
          · rfl
        replace hcl' := Mr.hid hcl'
        replace hll' := Mr.hid hll'
        replace hset := Mr.hid hset
        replace hb := Mr.hid hb
        replace h0 := Mr.hid h0
        replace ht := Mr.hid ht
        replace ha := Mr.hid ha
        clear hc hl k0 k1
        have fin : ∀ (o : Obj) (nq : Nat), Kp w ((wr.alloc o).drewN nq) B (.int .i64 (ft : Int)) (.slice a wt.length cap) (.slice (some ⟨bo, oo, none⟩) mt.length cm) (.slice p1 Q.cls.length q1) (.slice (some ⟨ga, 0, none⟩) Q.lg.length q2) (.slice p4 Q.ws.length q4) Q ∧ Has ((wr.alloc o).drewN nq) (fun k => B < k ∧ k < wr.heap.size) 4 1 (.slice (some ⟨W2.heap.size, 0, none⟩) ft ft) ft (bls ((bz P).set tn (!fins Q.cls i 0))) ∧ ((wr.alloc o).drewN nq).heap[wr.heap.size]? = some o :=
          fun o nq => ⟨(hK.below ((Below.refl _ _).alloc (Nat.le_refl _) o)).drewN nq, by rw [hset.out]; exact (has_drewN (hbz.alloc o) nq).kept (fun _ _ => rfl) (fun k hk => by cases hk; exact ⟨z2, hgl⟩), heap_alloc_new wr o⟩
        replace fin := Mr.hid fin
        replace hK := Mr.hid hK
        replace hbz := Mr.hid hbz
        go_upto_region 17 with fail
        go_quiet (fail)
        obtain ⟨K3, hb3, hm3⟩ := fin.out (.cells #[.int .i64 (tn : Int), .int .i64 0, .int .i64 m.arg, .int .i64 m.data] 34) nq
        clear fin hK hbz c0 c1 c2 r0 r1 r2 r3 f0 f1 x0 g0 g1 g2 g3
        generalize (wr.alloc (.cells #[.int .i64 (tn : Int), .int .i64 0, .int .i64 m.arg, .int .i64 m.data] 34)).drewN nq = W3 at *
        generalize wr.heap.size = bm at *
        obtain ⟨⟨c0, c1, c2⟩, r0, r1, r2, r3⟩ := K3.cells
        replace K3 := Mr.hid K3
        replace hb3 := Mr.hid hb3
        replace hm3 := Mr.hid hm3
        go_wp2
        go_loopg [178] Q.cls.length (fun k s wy => ∃ j : Nat, s = .int .i64 (j : Int) ∧ j + k = Q.cls.length ∧ Kp w wy B (.int .i64 (ft : Int)) (.slice a wt.length cap) (.slice (some ⟨bo, oo, none⟩) mt.length cm) (.slice p1 Q.cls.length q1) (.slice (some ⟨ga, 0, none⟩) Q.lg.length q2) (.slice p4 Q.ws.length q4) Q ∧ Has wy (fun k => B < k ∧ k < bm) 4 1 (.slice (some ⟨W2.heap.size, 0, none⟩) ft ft) ft (bls ((bz P).set tn (!fins Q.cls i j))) ∧ wy.heap[bm]? = some (.cells #[.int .i64 (tn : Int), .int .i64 0, .int .i64 m.arg, .int .i64 m.data] 34 (0, 0)))
        case atStart => exact ⟨0, rfl, by omega, K3.out, hb3.out, hm3.out⟩
        case round =>
          obtain ⟨j, rfl, hj, hK', hb', hm'⟩ := hrel
          clear c0 c1 c2 r0 r1 r2 r3 K3 hb3 hm3
          obtain ⟨⟨c0, c1, c2⟩, r0, r1, r2, r3⟩ := hK'.cells
          by_cases hjl : j < Q.cls.length
          · obtain ⟨cl, hcl⟩ : ∃ cl, Q.cls[j]? = some cl := ⟨_, List.getElem?_eq_getElem hjl⟩
            have hfs := fins_step Q.cls i j cl hcl
            obtain ⟨gq, qq, hgq, ⟨hq1, hq2⟩, hql, hqn, hqx⟩ := hK'.h1.there (by omega)
            cases hgq
            obtain ⟨f0, f1, f2, f3, f4, f5, f6, f7, f8⟩ := cl_cells hK'.h1 hcl
            unfold maxLen at hqx
            have y0 : wr.cell? ⟨bm, 0, none⟩ = some (.int .i64 (tn : Int)) := by simp [World.cell?, hm']
            have hbl : bm < wr.heap.size := (Array.getElem?_eq_some_iff.1 hm').1
            have hgl' : W2.heap.size < wr.heap.size := by omega
            have hfz' := hb'.frozen (g := W2.heap.size) rfl
            obtain ⟨bq, hbq⟩ : ∃ bq, (!fins Q.cls i j) = bq := ⟨_, rfl⟩
            have x1 : wr.cell? ⟨W2.heap.size, tn, none⟩ = some (.bool bq) := by rw [← hbq]; exact hb'.cells (g := W2.heap.size) rfl tn _ (bls_get _ _ _ (List.getElem?_set_self (List.getElem?_eq_some_iff.1 ht.out).1))
            have fin : ∀ o : Obj, Kp w (wr.alloc o) B (.int .i64 (ft : Int)) (.slice a wt.length cap) (.slice (some ⟨bo, oo, none⟩) mt.length cm) (.slice (some ⟨gq, 0, none⟩) Q.cls.length q1) (.slice (some ⟨ga, 0, none⟩) Q.lg.length q2) (.slice p4 Q.ws.length q4) Q ∧ Has (wr.alloc o) (fun k => B < k ∧ k < bm) 4 1 (.slice (some ⟨W2.heap.size, 0, none⟩) ft ft) ft (bls ((bz P).set tn bq)) ∧ (wr.alloc o).heap[bm]? = some (.cells #[.int .i64 (tn : Int), .int .i64 0, .int .i64 m.arg, .int .i64 m.data] 34 (0, 0)) :=
              fun o => ⟨hK'.below ((Below.refl _ _).alloc (Nat.le_refl _) o), by rw [hbq] at hb'; exact hb'.alloc o, (((Below.refl wr.heap.size wr).alloc (Nat.le_refl _) o).block _ hbl).trans hm'⟩
            replace fin := Mr.hid fin
            replace hK' := Mr.hid hK'
            replace hb' := Mr.hid hb'
            replace hm' := Mr.hid hm'
            replace hcl := Mr.hid hcl
            replace hfs := Mr.hid hfs
            replace hbq := Mr.hid hbq
            by_cases hpt : cl.fin = (i : Int)
            · rw [hpt] at f5
              go_wp2
              go_roundg (gk - 1)
              case measure => omega
              case rel =>
                have t0 := Below.refl wr.heap.size wr
                have t1 := hK'.out.set ⟨W2.heap.size, tn, none⟩ z2 (.bool false)
                have t2 := has_put hb'.out tn (.bool false)
                have t3 : (wr.setCell ⟨W2.heap.size, tn, none⟩ (.bool false)).heap[bm]? = some (.cells #[.int .i64 (tn : Int), .int .i64 0, .int .i64 m.arg, .int .i64 m.data] 34 (0, 0)) := by
                  rw [Below.heap_setCell _ _ _ _ (by simp only; omega)]
                  exact hm'.out
                rw [bls_set, List.set_set] at t2
                have e9 : (!fins Q.cls i (j + 1)) = false := by rw [hfs.out, hpt]; simp
                refine ⟨j + 1, by simp, by omega, t1.below ((Below.refl _ _).alloc (Nat.le_refl _) _), by rw [e9]; exact t2.alloc _, (((Below.refl _ _).alloc (Nat.le_refl _) _).block _ (by simp; omega)).trans t3⟩
            · have e9 : (cl.fin == (i : Int)) = false := by simpa using hpt
              go_wp2
              go_roundg (gk - 1)
              case measure => omega
              case rel =>
                obtain ⟨t1, t2, t3⟩ := fin.out (.cells #[.int .i64 cl.th, .int .i64 cl.op, .int .i64 cl.arg, .int .i64 cl.data, .int .i64 cl.beg, .int .i64 cl.fin, .int .i64 cl.pt, .int .i64 cl.ak, .int .i64 cl.av] 52)
                refine ⟨j + 1, by simp, by omega, t1, ?_, t3⟩
                rw [hfs.out, e9, Bool.or_false, hbq.out]
                exact t2
          · have hje : j = Q.cls.length := by omega
            subst hje
            rw [← hb.out] at hb'
            replace hK' := Mr.hid hK'
            replace hb' := Mr.hid hb'
            go_wp2
            go_roundg (gk1 - 1)
            case measure => omega
            case rel => exact ⟨i + 1, by rw [hP'.out, hcl'.out], by rw [hP'.out, hll'.out], by simp, by omega, hK'.out, by rw [hP'.out]; exact hb'.out.mono (fun k hk => hk.1)⟩
    · obtain rfl : i = mt.length := by omega
      rw [pk_all, hQ.out] at hbz
      rw [pk_all, hQ.out]
      replace hK := Mr.hid hK
      replace hbz := Mr.hid hbz
      go_wp2
      go_ret
      exact ⟨by simp, hK.out.bel⟩
theorem steps_law (th : Int) (a : Option Addr) (n cap : Nat) (ws : List Int) (am : Option Addr) (nm cm : Nat) (ms : List Mv) (w : World) (hs : Src w a n cap ws) (hm : MvAt w am nm ms) (hn : n ≤ cap) (hnm : nm ≤ cm) :
    Calls Try.prog 5 #[.agg #[.int .i64 th, .slice a n cap, .slice am nm cm]] w fun e w' => e = .returned (.bool true) ∧ Below w.heap.size w w' :=
  steps_walk w th a n cap am nm cm hn hnm ws ms hs hm
end Go.Proofs.Ytiobchadjcekcaa.Ma
