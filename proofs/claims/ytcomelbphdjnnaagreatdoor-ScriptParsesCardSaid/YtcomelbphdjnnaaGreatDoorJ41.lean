import Derived.Test.YtcomelbphdjnnaaGreatDoorJ28
import Derived.Test.YtcomelbphdjnnaaGreatDoorJ19
import Derived.Test.YtcomelbphdjnnaaGreatDoorJ26
import Derived.Test.YtcomelbphdjnnaaGreatDoorJ33
import Derived.Test.YtcomelbphdjnnaaGreatDoorJ40
import Derived.Test.YtcomelbphdjnnaaGreatDoorJ18
/-
  SCRIPT, pure: a text's lines as the document goes through them; what a line puts behind the moves.
-/
namespace Go.Proofs.YtcomelbphdjnnaaGreatDoor.Sc
open Go.RowKit
set_option linter.unusedVariables false
set_option linter.unusedSimpArgs false
theorem cut_line (s : ByteArray) (i j : Nat) (hij : i ≤ j) (hj : j ≤ s.size) (hb : ∀ t (h : t < s.size), i ≤ t → t < j → s[t].toNat ≠ 10) (he : j = s.size ∨ ∃ h : j < s.size, s[j].toNat = 10) : (Lib.cut (s.data.toList.drop i) [10]).1 = (s.extract i j).data.toList ∧ (Lib.cut (s.data.toList.drop i) [10]).2.1 = s.data.toList.drop (j + 1) := by
  have hlen : s.data.toList.length = s.size := by simp
  have hat : ∀ t (h : t < s.size), s.data.toList[t]? = some s[t] := fun t h => by rw [List.getElem?_eq_getElem (by omega)]; simp; rfl
  have e1 : s.data.toList.drop i = (s.extract i j).data.toList ++ s.data.toList.drop j := by
    rw [ext_list]
    have h2 : s.data.toList = s.data.toList.take j ++ s.data.toList.drop j := (List.take_append_drop j _).symm
    conv => lhs; rw [h2]
    rw [List.drop_append_of_le_length (by rw [List.length_take]; omega)]
  have hno : ∀ x ∈ (s.extract i j).data.toList, x ≠ 10 := fun c hc e => by
    obtain ⟨t, ht⟩ := List.getElem?_of_mem hc
    rw [ext_list, List.getElem?_drop, List.getElem?_take] at ht
    split at ht
    · rename_i hlt
      rw [hat _ (by omega)] at ht
      cases ht
      exact hb _ (by omega) (by omega) hlt (by rw [e]; rfl)
    · cases ht
  rcases he with rfl | ⟨h, h10⟩
  · have e2 : s.data.toList.drop s.size = [] := List.drop_of_length_le (by omega)
    rw [e2, List.append_nil] at e1
    rw [e1, cut_no _ hno, List.drop_of_length_le (by omega)]
    exact ⟨rfl, rfl⟩
  · have e10 : s[j] = 10 := UInt8.toNat_inj.1 (by simpa using h10)
    rw [e1, get_drop s j h, e10, cut_nl _ _ hno]
    exact ⟨rfl, rfl⟩
/-- The rest of a text, from line k on. -/
theorem prX_step (s : ByteArray) (i j k : Nat) (st : Cf × List Mv) (hi : i < s.size) (hij : i ≤ j) (hj : j ≤ s.size) (hb : ∀ t (h : t < s.size), i ≤ t → t < j → s[t].toNat ≠ 10) (he : j = s.size ∨ ∃ h : j < s.size, s[j].toNat = 10) :
    prX (s.data.toList.drop i).length k (s.data.toList.drop i) st = if lnE st (words (s.extract i j).data.toList) = 0 then prX (s.data.toList.drop (j + 1)).length (k + 1) (s.data.toList.drop (j + 1)) (lnS st (words (s.extract i j).data.toList)) else .inl (k, lnE st (words (s.extract i j).data.toList)) := by
  obtain ⟨h1, h2⟩ := cut_line s i j hij hj hb he
  rw [← h1, ← h2]
  rw [get_drop s i hi]
  exact prX_cons _ _ k st
/-- What a line puts behind the moves. -/
def its (T : Nat) (mv : Mv) (k : Int) (rd : Bool) : List Mv := if rd = true then (List.range (k.toNat * T)).map (fun i => stp ((i % T : Nat) : Int)) else List.replicate k.toNat mv
def itN (T : Nat) (k : Int) (rd : Bool) : Nat := if rd = true then k.toNat * T else k.toNat
theorem its_len (T : Nat) (mv : Mv) (k : Int) (rd : Bool) : (its T mv k rd).length = itN T k rd := by unfold its itN; split <;> simp
theorem Dm.ent {ws : List (List UInt8)} {mv : Mv} {k : Int} {rd : Bool} (h : Dm ws mv k rd 0) (T : Nat) (hT : 1 ≤ T) (ms : List Mv) : (65536 < ms.length + itN T k rd → entE T ms ws = 3) ∧ (ms.length + itN T k rd ≤ 65536 → entE T ms ws = 0 ∧ entM T ms ws = ms ++ its T mv k rd) := by
  obtain ⟨h1, h2, h3, h4⟩ := h.ok rfl
  have hm := h4 T
  have hne : (if rd = true then rnds T else [mv]) ≠ [] := by cases rd with | true => exact rnds_ne hT | false => simp
  have hln : (if rd = true then rnds T else [mv]).length = if rd = true then T else 1 := by cases rd with | true => exact rnds_len T | false => rfl
  have hmul : k.toNat * (if rd = true then rnds T else [mv]).length = itN T k rd := by rw [hln]; unfold itN; split <;> simp
  have hfl : (List.replicate k.toNat (if rd = true then rnds T else [mv])).flatten = its T mv k rd := by
    unfold its
    split
    · exact (rnds_many T hT k.toNat).symm
    · generalize k.toNat = n
      induction n with
      | zero => rfl
      | succ n ih => rw [List.replicate_succ, List.flatten_cons, ih]; rfl
  unfold entE entM
  rw [hm]
  dsimp only
  rw [if_neg hne, h3, if_neg (by decide), if_neg (by omega), hmul, hfl]
  exact ⟨fun h => by rw [if_pos h], fun h => ⟨by rw [if_neg (by omega)], rfl⟩⟩
theorem its_succ_r (T : Nat) (mv : Mv) (k : Int) (i : Nat) (hi : i < k.toNat * T) : (its T mv k true).take (i + 1) = (its T mv k true).take i ++ [stp ((i % T : Nat) : Int)] := by
  refine take_succ_of ?_
  simp [its, hi]
theorem its_succ_m (T : Nat) (mv : Mv) (k : Int) (i : Nat) (hi : i < k.toNat) : (its T mv k false).take (i + 1) = (its T mv k false).take i ++ [mv] := by
  refine take_succ_of ?_
  simp [its, hi]
end Go.Proofs.YtcomelbphdjnnaaGreatDoor.Sc
/-
  SCRIPT: the document's Parse.
-/
namespace Go.Proofs.YtcomelbphdjnnaaGreatDoor.Sc
open Go.RowKit Mr
set_option linter.unusedVariables false
set_option linter.unusedSimpArgs false
set_option maxRecDepth 100000
def cfA (c : Cf) : Array Value := #[.int .i64 c.c0, .int .i64 c.c1, .int .i64 c.c2, .int .i64 c.c3, .int .i64 c.c4, .int .i64 c.c5, .int .i64 c.c6]
/-- The answer's box, the configuration's, the moves. -/
structure Pq (w wr : World) (cf : Cf) (ms : List Mv) (v : Value) : Prop where
  box : wr.heap[w.heap.size]? = some (.cells z7A 23 (0, 0))
  cbx : wr.heap[w.heap.size + 1]? = some (.cells (cfA cf) 23 (0, 0))
  row : Has wr (fun k => w.heap.size + 2 ≤ k) 42 4 v ms.length (mvc ms)
  bel : Below w.heap.size w wr
theorem Pq.lt {w wr : World} {cf : Cf} {ms : List Mv} {v : Value} (h : Pq w wr cf ms v) : w.heap.size + 2 ≤ wr.heap.size := by have := (Array.getElem?_eq_some_iff.1 h.cbx).1; omega
theorem Pq.below {w wr wq : World} {cf : Cf} {ms : List Mv} {v : Value} (h : Pq w wr cf ms v) (hB : Below wr.heap.size wr wq) : Pq w wq cf ms v := by
  have := h.lt
  exact ⟨(hB.block _ (by omega)).trans h.box, (hB.block _ (by omega)).trans h.cbx, h.row.below hB, h.bel.trans (hB.mono h.bel.size)⟩
theorem Pq.alloc {w wr : World} {cf : Cf} {ms : List Mv} {v : Value} (h : Pq w wr cf ms v) (o : Obj) : Pq w (wr.alloc o) cf ms v := h.below ((Below.refl _ _).alloc (Nat.le_refl _) _)
/-- The same, with the box of the move that is put behind the others. -/
structure Pr (w wq : World) (cf : Cf) (bm : Nat) (mo : Mv) (ms : List Mv) (v : Value) : Prop where
  box : wq.heap[w.heap.size]? = some (.cells z7A 23 (0, 0))
  cbx : wq.heap[w.heap.size + 1]? = some (.cells (cfA cf) 23 (0, 0))
  mbx : wq.heap[bm]? = some (.cells mo.cells.toArray 42 (0, 0))
  hbm : w.heap.size + 2 ≤ bm
  row : Has wq (fun k => w.heap.size + 2 ≤ k ∧ k ≠ bm) 42 4 v ms.length (mvc ms)
  bel : Below w.heap.size w wq
theorem Pr.pq {w wq : World} {cf : Cf} {bm : Nat} {mo : Mv} {ms : List Mv} {v : Value} (h : Pr w wq cf bm mo ms v) : Pq w wq cf ms v := ⟨h.box, h.cbx, h.row.mono (fun k hk => hk.1), h.bel⟩
theorem Pr.of {w w6 : World} {cf : Cf} {ms : List Mv} {v : Value} (h : Pq w w6 cf ms v) (mo : Mv) : Pr w (w6.alloc (.cells mo.cells.toArray 42)) cf w6.heap.size mo ms v :=
  ⟨(h.alloc _).box, (h.alloc _).cbx, new_at _ _ _ rfl, h.lt, (h.row.alloc _).kept (fun _ _ => rfl) (fun k hk => ⟨(h.row.lt k hk).1, by have := (h.row.lt k hk).2; omega⟩), (h.alloc _).bel⟩
theorem Pr.lt {w wq : World} {cf : Cf} {bm : Nat} {mo : Mv} {ms : List Mv} {v : Value} (h : Pr w wq cf bm mo ms v) : bm < wq.heap.size := (Array.getElem?_eq_some_iff.1 h.mbx).1
theorem Pr.put {w wq : World} {cf : Cf} {bm : Nat} {mo : Mv} {ms : List Mv} {v : Value} (h : Pr w wq cf bm mo ms v) (x : Int) : Pr w (wq.setCell ⟨bm, 0, none⟩ (.int .i64 x)) cf bm ⟨x, mo.op, mo.arg, mo.data⟩ ms v := by
  have hb := h.hbm
  have hz : ∀ k, k ≠ bm → (wq.setCell ⟨bm, 0, none⟩ (.int .i64 x)).heap[k]? = wq.heap[k]? := fun k hk => Below.heap_setCell wq _ _ _ hk
  refine ⟨(hz _ (by omega)).trans h.box, (hz _ (by omega)).trans h.cbx, (setBlk h.mbx 0 _).trans rfl, hb, h.row.setCell _ _ (fun e => (h.row.lt _ e).1.2 rfl), h.bel.setCell (p := ⟨bm, 0, none⟩) (by show w.heap.size ≤ bm; omega) _⟩
theorem Pr.more {w wq w3 : World} {cf : Cf} {bm : Nat} {mo m : Mv} {ms : List Mv} {v v3 : Value} {o : Obj} (h : Pr w wq cf bm mo ms v) (v' : Value) (hv : v'.ownBlock = v.ownBlock) (hgr : (wq.alloc o).grownBy w3 v'.ownBlock) (hh : Has w3 (fun k => w.heap.size + 2 ≤ k ∧ k ≠ bm) 42 4 v3 (ms.length + 1) (mvc ms ++ m.cells)) : Pr w w3 cf bm mo (ms ++ [m]) v3 := by
  rw [hv] at hgr
  have hb := h.hbm
  have hl := h.lt
  have hz : ∀ k, k < wq.heap.size → some k ≠ v.ownBlock → w3.heap[k]? = wq.heap[k]? := fun k hk hn => (hgr.block k (by simp; omega) hn).trans (Below.heap_alloc wq o k hk)
  have hn : ∀ k, ¬ (w.heap.size + 2 ≤ k ∧ k ≠ bm) → some k ≠ v.ownBlock := fun k hk e => hk (h.row.lt k e.symm).1
  refine ⟨(hz _ (by omega) (hn _ (by omega))).trans h.box, (hz _ (by omega) (hn _ (by omega))).trans h.cbx, (hz _ hl (hn _ (by omega))).trans h.mbx, hb, ?_, ?_⟩
  · have e : mvc (ms ++ [m]) = mvc ms ++ m.cells := by rw [mvc_append]; simp [mvc]
    have e2 : (ms ++ [m]).length = ms.length + 1 := by simp
    rw [e, e2]
    exact hh
  · exact (h.bel.alloc h.bel.size o).grown hgr (by have := h.bel.size; simp; omega) (fun k hk => by have := (h.row.lt k hk).1; omega)
theorem rem_nat (q T : Nat) (hT : 1 ≤ T) : Int.tmod (q : Int) (T : Int) = ((q % T : Nat) : Int) := by
  rw [Int.tmod_eq_emod_of_nonneg (by omega)]; omega
theorem nl_no (c : UInt8) (h : c.toNat ≠ 10) : ((c.toNat : Int) != 10) = true := bne_iff_ne.2 (by omega)
theorem nl_yes (c : UInt8) (h : c.toNat = 10) : ((c.toNat : Int) != 10) = false := by rw [h]; rfl
set_option maxHeartbeats 8000000 in
theorem rParse_long (s : ByteArray) (w : World) (hs : ¬ s.size ≤ 1048576) : Calls Tryz.prog 11 #[.string s] w (PeA w 0 3) := by
  have k1 : decide ((1048576 : Int) < (s.size : Int)) = true := decide_eq_true (by omega)
  have k2 : (1048576 : Int) < (s.size : Int) := by omega
  have B0 : Hid (Below w.heap.size w (w.alloc (.cells #[.int .i64 0, .int .i64 0, .int .i64 0, .int .i64 0, .int .i64 0, .int .i64 0, .int .i64 0] 23))) := (Below.refl _ _).alloc (Nat.le_refl _) _
  clear hs
  go_enter Tryz.func11, Tryz.ntmps11
  go_wp2
  refine bodyPost_ret (v := .tuple #[.agg #[.int .i64 0, .int .i64 0, .int .i64 0, .int .i64 0, .int .i64 0, .int .i64 0, .int .i64 0], .slice none 0 0, .int .i64 0, .int .i64 3]) (by simp [results, Tryz.results11, go_sem, *]) rfl ⟨rfl, B0.out⟩
set_option maxHeartbeats 32000000 in
theorem rParse_in (s : ByteArray) (w : World) (hs : s.size ≤ 1048576) (r : (Nat × Int) ⊕ (Cf × List Mv)) (hr : r = match prX s.data.toList.length 1 s.data.toList (cfZ, []) with | .inr st => if st.1 = cfZ then .inl (0, 172) else .inr st | .inl x => .inl x) :
    Calls Tryz.prog 11 #[.string s] w (PxA w r) := by
  have k1 : decide ((1048576 : Int) < (s.size : Int)) = false := decide_eq_false (by omega)
  have k2 : ¬ (1048576 : Int) < (s.size : Int) := by omega
  have hP0 : Pq w ((w.alloc (.cells z7A 23)).alloc (.cells z7A 23)) cfZ [] (.slice none 0 0) := ⟨(Lib.alloc_old _ _ _ (by simp)).trans (new_at _ _ _ rfl), new_at _ _ _ (by simp), Has.nil _ _ _ _, ((Below.refl _ _).alloc (Nat.le_refl _) _).alloc (by simp) _⟩
  unfold z7A at hP0
  have hlen : Hid (s.data.toList.length = s.size) := by show _ = _; simp
  obtain ⟨PX, hPX⟩ : ∃ X, prX s.data.toList.length 1 s.data.toList (cfZ, []) = X := ⟨_, rfl⟩
  rw [hPX] at hr
  replace hr := Mr.hid hr
  replace hPX := Mr.hid hPX
  have RW : Hid (∀ i j W, i ≤ j → j ≤ s.size → Calls Tryz.prog 23 #[.string (s.extract i j)] W fun e w' => ∃ v, e = .returned v ∧ Has w' (fun k => W.heap.size ≤ k) 9 1 v (words (s.extract i j).data.toList).length (strs (words (s.extract i j).data.toList)) ∧ Below W.heap.size W w') := fun i j W hij hj => rWords_any _ W (by simp; omega)
  obtain ⟨im, him, hm0, hm1, hm2⟩ := info_m
  go_enter Tryz.func11, Tryz.ntmps11
  go_upto_region 8 with fail
  generalize (w.alloc (.cells #[.int .i64 0, .int .i64 0, .int .i64 0, .int .i64 0, .int .i64 0, .int .i64 0, .int .i64 0] 23)).alloc (.cells #[.int .i64 0, .int .i64 0, .int .i64 0, .int .i64 0, .int .i64 0, .int .i64 0, .int .i64 0] 23) = w2 at *
  clear k1 k2
  go_loopg [7, 8, 9, 10] (s.size + 1) (fun gk s7 s8 s9 s10 wr => ∃ (v : Value) (bg : Bool) (ln i : Nat) (cf : Cf) (ms : List Mv), s7 = v ∧ s8 = .bool bg ∧ s9 = .int .i64 (ln : Int) ∧ s10 = .int .i64 (i : Int) ∧ i + gk = s.size + 1 ∧ ln ≤ i ∧ Pq w wr cf ms v ∧ (bg = true ↔ cf ≠ cfZ) ∧ Gs (cf, ms) ∧ prX (s.data.toList.drop i).length (ln + 1) (s.data.toList.drop i) (cf, ms) = PX)
  case atStart => exact ⟨_, false, 0, 0, cfZ, [], rfl, rfl, rfl, rfl, by omega, by omega, hP0, by simp, ⟨.inl rfl, by simp⟩, hPX.out⟩
  case round =>
    obtain ⟨v, bg, ln, i, cf, ms, rfl, rfl, rfl, rfl, hi, hln, hP, hbg, hG, hpr⟩ := hrel
    obtain ⟨av, cv, rfl, hcv⟩ := hP.row.form
    clear hP0 hPX
    replace hbg := Mr.hid hbg
    replace hG := Mr.hid hG
    have hi' := Mr.hid hi
    by_cases hlt : i < s.size
    · have hlI : (i : Int) < (s.size : Int) := by omega
      have dl : decide ((i : Int) < (s.size : Int)) = true := by simpa using hlI
      have dn : decide (i < s.size) = true := decide_eq_true hlt
      replace hP := Mr.hid hP
      replace hpr := Mr.hid hpr
      clear hi
      go_upto_region 9 with fail
      clear dl dn
      iterate 11 go_step
      go_cut [11] (fun s11 wq => ∃ j : Nat, s11 = .int .i64 (j : Int) ∧ i ≤ j ∧ j ≤ s.size ∧ (∀ t (h : t < s.size), i ≤ t → t < j → s[t].toNat ≠ 10) ∧ (j = s.size ∨ ∃ h : j < s.size, s[j].toNat = 10) ∧ wr = wq)
      case first =>
        go_upto_region 10 with fail
        go_loopg [11] (s.size - i) (fun gk s11 wq => ∃ j : Nat, s11 = .int .i64 (j : Int) ∧ i ≤ j ∧ j + gk = s.size ∧ (∀ t (h : t < s.size), i ≤ t → t < j → s[t].toNat ≠ 10) ∧ wr = wq)
        case atStart => exact ⟨i, rfl, Nat.le_refl _, by omega, fun t h h1 h2 => by omega, rfl⟩
        case round =>
          obtain ⟨j, rfl, hij, hj, hno, hwq⟩ := hrel
          obtain rfl := hwq
          by_cases hjl : j < s.size
          · have kl : decide ((j : Int) < (s.size : Int)) = true := decide_eq_true (by omega)
            have kl2 : (j : Int) < (s.size : Int) := by omega
            have kn : decide (j < s.size) = true := decide_eq_true hjl
            have hwj : IntKind.i64.wrap ((j : Int) + 1) = (j : Int) + 1 := i64x _ (by omega) (by omega)
            have hj' := Mr.hid hj
            by_cases h10 : s[j].toNat = 10
            · have q := nl_yes s[j] h10
              replace hno := Mr.hid hno
              replace h10 := Mr.hid h10
              clear hj
              go_wp2
              go_meet
              case rel => exact ⟨j, rfl, hij, by omega, hno.out, .inr ⟨hjl, h10.out⟩, rfl⟩
            · have q := nl_no s[j] h10
              have hno' : Hid (∀ t (h : t < s.size), i ≤ t → t < j + 1 → s[t].toNat ≠ 10) := fun t h h1 h2 => by
                by_cases e : t = j
                · subst e; exact h10
                · exact hno t h h1 (by omega)
              clear hno hj h10
              go_wp2
              go_roundg (gk - 1)
              case measure => have := hj'.out; omega
              case rel => exact ⟨j + 1, by simp, by omega, by have := hj'.out; omega, hno'.out, rfl⟩
          · obtain rfl : j = s.size := by omega
            have kl : decide ((s.size : Int) < (s.size : Int)) = false := by simp
            have kl2 : ¬ (s.size : Int) < (s.size : Int) := by omega
            have kn : decide (s.size < s.size) = false := by simp
            replace hno := Mr.hid hno
            clear hj hjl
            go_wp2
            go_meet
            case rel => exact ⟨s.size, rfl, hij, Nat.le_refl _, hno.out, .inl rfl, rfl⟩
      case rest =>
        obtain ⟨j, rfl, hij, hjs, hno, hend, hwq⟩ := hcut
        obtain rfl := hwq
        have hstep := Mr.hid (prX_step s i j (ln + 1) (cf, ms) hlt hij hjs hno hend)
        have k1 : (i : Int) ≤ (j : Int) := by omega
        have k2 : (j : Int) ≤ (s.size : Int) := by omega
        have hwl : IntKind.i64.wrap ((ln : Int) + 1) = (ln : Int) + 1 := i64x _ (by omega) (by omega)
        have hwj : IntKind.i64.wrap ((j : Int) + 1) = (j : Int) + 1 := i64x _ (by omega) (by omega)
        have R1 := Mr.hid (RW.out i j wr hij hjs)
        have hgw := Mr.hid (words_good (s.extract i j).data.toList)
        have hwn := words_len (s.extract i j).data.toList
        have hxl : (s.extract i j).data.toList.length ≤ 1048576 := by simp; omega
        obtain ⟨hw1, hw2⟩ := hwn
        have hw3 : Hid (∀ x ∈ words (s.extract i j).data.toList, x.length ≤ 1048576) := fun x hx => Nat.le_trans (hw2 x hx) hxl
        have hw4 : (words (s.extract i j).data.toList).length ≤ 1048576 := Nat.le_trans hw1 hxl
        generalize hws : words (s.extract i j).data.toList = ws at *
        rw [hpr.out] at hstep
        clear hno hend hpr RW hw1 hw2 hxl hws
        go_upto_region 15 with (go_at_call 23; refine R1.out.mono ?_; clear R1; rintro e w5 ⟨vw, rfl, hvw, B5⟩; obtain ⟨aw, cw, rfl, hcw⟩ := hvw.form)
        have hP5 := Mr.hid (hP.out.below B5)
        have hW5 := Mr.hid (WsAt.of hvw)
        clear hP hvw B5
        by_cases hws0 : ws = []
        · subst hws0
          have hnx : Hid (prX (s.data.toList.drop (j + 1)).length (ln + 1 + 1) (s.data.toList.drop (j + 1)) (cf, ms) = PX) := by
            have h := hstep.out
            have e1 : lnE (cf, ms) [] = 0 := by unfold lnE; rw [if_pos rfl]
            have e2 : lnS (cf, ms) [] = (cf, ms) := by unfold lnS; rw [if_pos rfl]
            rw [e1, if_pos rfl, e2] at h
            exact h.symm
          go_wp2
          go_roundg (s.size - j)
          case measure => have := hi'.out; omega
          case rel => exact ⟨_, bg, ln + 1, j + 1, cf, ms, rfl, rfl, by simp, by simp, by omega, by omega, hP5.out, hbg.out, hG.out, hnx.out⟩
        · have hwp : 0 < ws.length := List.length_pos_iff.2 hws0
          have kz : ((ws.length : Int) == 0) = false := beq_eq_false_iff_ne.2 (by omega)
          have kz2 : ¬ (ws.length : Int) = 0 := by omega
          have kz3 : ¬ ws.length = 0 := by omega
          cases bg with
          | false =>
            have hcf : cf = cfZ := Classical.byContradiction fun h => by have := hbg.out.2 h; cases this
            have hln1 : lnE (cf, ms) ws = macE ws := by unfold lnE; rw [if_neg hws0, if_pos hcf]
            have hln2 : lnS (cf, ms) ws = (cfN (numsL ws), ms) := by unfold lnS; rw [if_neg hws0, if_pos hcf]
            have hstep2 := hstep.out
            rw [hln1, hln2] at hstep2
            have M1 := mach_any ws aw ws.length cw w5 hW5.out hgw.out hw3.out
            unfold McA at M1
            by_cases hE : macE ws = 0
            · rw [hE, if_pos rfl] at M1 hstep2
              have hG2 : Hid (Gs (cfN (numsL ws), ms)) := by have := Gs.next hG.out (ws := ws) (by rw [hln1]; exact hE); rw [hln2] at this; exact this
              have hne2 : cfN (numsL ws) ≠ cfZ := cfgC_ne (macE_ok hE)
              replace hstep2 := Mr.hid hstep2
              generalize hcn : cfN (numsL ws) = cn at *
              obtain ⟨n0, n1, n2, n3, n4, n5, n6⟩ := cn
              unfold cfV at M1
              dsimp only at M1
              replace M1 := Mr.hid M1
              replace hne2 := Mr.hid hne2
              clear hcf hln1 hln2 hE hcn hstep hbg hG hgw hw3 hW5 hcw
              go_upto_region 18 with (go_at_call 24; refine M1.out.mono ?_; clear M1; rintro e w6 ⟨rfl, B6⟩)
              have hP6 := hP5.out.below B6
              have hP7 := hP6.alloc (.cells #[.int .i64 n0, .int .i64 n1, .int .i64 n2, .int .i64 n3, .int .i64 n4, .int .i64 n5, .int .i64 n6] 23)
              have hcb : (w6.alloc (.cells #[.int .i64 n0, .int .i64 n1, .int .i64 n2, .int .i64 n3, .int .i64 n4, .int .i64 n5, .int .i64 n6] 23)).heap[w6.heap.size]? = some (.cells #[.int .i64 n0, .int .i64 n1, .int .i64 n2, .int .i64 n3, .int .i64 n4, .int .i64 n5, .int .i64 n6] 23 (0, 0)) := new_at _ _ _ rfl
              have hne : w.heap.size + 1 ≠ w6.heap.size := by have := hP6.lt; omega
              clear hP6 B6 hP5
              generalize w6.alloc (.cells #[.int .i64 n0, .int .i64 n1, .int .i64 n2, .int .i64 n3, .int .i64 n4, .int .i64 n5, .int .i64 n6] 23) = w7 at *
              generalize w6.heap.size = bc at *
              have z0 := cell_blk hcb 0
              have z1 := cell_blk hcb 1
              have z2 := cell_blk hcb 2
              have z3 := cell_blk hcb 3
              have z4 := cell_blk hcb 4
              have z5 := cell_blk hcb 5
              have z6 := cell_blk hcb 6
              have lc := (Array.getElem?_eq_some_iff.1 hcb).1
              have b1 := hP7.cbx
              unfold cfA at b1
              have y0 := cell_blk b1 0
              have y1 := cell_blk b1 1
              have y2 := cell_blk b1 2
              have y3 := cell_blk b1 3
              have y4 := cell_blk b1 4
              have y5 := cell_blk b1 5
              have y6 := cell_blk b1 6
              have hfz : ∀ k, w7.frozen? ⟨w.heap.size + 1, k, none⟩ = false := fun k => by simp [World.frozen?, b1]
              have lb := (Array.getElem?_eq_some_iff.1 b1).1
              have hno : (Value.slice av ms.length cv).ownBlock ≠ some (w.heap.size + 1) := fun e => by have := (hP7.row.lt _ e).1; omega
              have hP8 : Hid (Pq w (((((((w7.setCell ⟨w.heap.size + 1, 0, none⟩ (.int .i64 n0)).setCell ⟨w.heap.size + 1, 1, none⟩ (.int .i64 n1)).setCell ⟨w.heap.size + 1, 2, none⟩ (.int .i64 n2)).setCell ⟨w.heap.size + 1, 3, none⟩ (.int .i64 n3)).setCell ⟨w.heap.size + 1, 4, none⟩ (.int .i64 n4)).setCell ⟨w.heap.size + 1, 5, none⟩ (.int .i64 n5)).setCell ⟨w.heap.size + 1, 6, none⟩ (.int .i64 n6)) ⟨n0, n1, n2, n3, n4, n5, n6⟩ ms (.slice av ms.length cv)) := by
                refine ⟨?_, ?_, ((((((hP7.row.setCell _ _ hno).setCell _ _ hno).setCell _ _ hno).setCell _ _ hno).setCell _ _ hno).setCell _ _ hno).setCell _ _ hno, (((((((hP7.bel.setCell (p := ⟨w.heap.size + 1, 0, none⟩) (by show _ ≤ w.heap.size + 1; omega) _).setCell (p := ⟨w.heap.size + 1, 1, none⟩) (by show _ ≤ w.heap.size + 1; omega) _).setCell (p := ⟨w.heap.size + 1, 2, none⟩) (by show _ ≤ w.heap.size + 1; omega) _).setCell (p := ⟨w.heap.size + 1, 3, none⟩) (by show _ ≤ w.heap.size + 1; omega) _).setCell (p := ⟨w.heap.size + 1, 4, none⟩) (by show _ ≤ w.heap.size + 1; omega) _).setCell (p := ⟨w.heap.size + 1, 5, none⟩) (by show _ ≤ w.heap.size + 1; omega) _).setCell (p := ⟨w.heap.size + 1, 6, none⟩) (by show _ ≤ w.heap.size + 1; omega) _)⟩
                · have hz : ∀ (W : World) k u, (W.setCell ⟨w.heap.size + 1, k, none⟩ u).heap[w.heap.size]? = W.heap[w.heap.size]? := fun W k u => Below.heap_setCell W _ u _ (by show w.heap.size ≠ w.heap.size + 1; omega)
                  rw [hz, hz, hz, hz, hz, hz, hz]
                  exact hP7.box
                · exact (setBlk (setBlk (setBlk (setBlk (setBlk (setBlk (setBlk b1 0 _) 1 _) 2 _) 3 _) 4 _) 5 _) 6 _).trans rfl
              clear hP7 hcb b1 hno
              go_wp2
              go_roundg (s.size - j)
              case measure => have := hi'.out; omega
              case rel => exact ⟨_, true, ln + 1, j + 1, ⟨n0, n1, n2, n3, n4, n5, n6⟩, ms, rfl, rfl, by simp, by simp, by omega, by omega, hP8.out, ⟨fun _ => hne2.out, fun _ => rfl⟩, hG2.out, hstep2.out.symm⟩
            · rw [if_neg hE] at M1 hstep2
              have hr2 : Hid (r = .inl (ln + 1, macE ws)) := by have h := hr.out; rw [hstep2] at h; exact h
              generalize hme : macE ws = me at *
              have kne : (me != 0) = true := bne_iff_ne.2 hE
              unfold cfV cfZ at M1
              dsimp only at M1
              replace M1 := Mr.hid M1
              clear hcf hln1 hln2 hstep hstep2 hbg hG hgw hw3 hW5 hcw hme hr
              go_upto_region 18 with (go_at_call 24; refine M1.out.mono ?_; clear M1; rintro e w6 ⟨rfl, B6⟩)
              have hP7 := (hP5.out.below B6).alloc (.cells #[.int .i64 0, .int .i64 0, .int .i64 0, .int .i64 0, .int .i64 0, .int .i64 0, .int .i64 0] 23)
              clear B6 hP5
              generalize w6.alloc (.cells #[.int .i64 0, .int .i64 0, .int .i64 0, .int .i64 0, .int .i64 0, .int .i64 0, .int .i64 0] 23) = w7 at *
              have b0 := hP7.box
              unfold z7A at b0
              have x0 := cell_blk b0 0
              have x1 := cell_blk b0 1
              have x2 := cell_blk b0 2
              have x3 := cell_blk b0 3
              have x4 := cell_blk b0 4
              have x5 := cell_blk b0 5
              have x6 := cell_blk b0 6
              have hfz : ∀ k, w7.frozen? ⟨w.heap.size, k, none⟩ = false := fun k => by simp [World.frozen?, b0]
              have lb := (Array.getElem?_eq_some_iff.1 b0).1
              have hB := Mr.hid hP7.bel
              clear b0 hP7
              go_wp2
              refine bodyPost_ret (v := .tuple #[.agg #[.int .i64 0, .int .i64 0, .int .i64 0, .int .i64 0, .int .i64 0, .int .i64 0, .int .i64 0], .slice none 0 0, .int .i64 ((ln : Int) + 1), .int .i64 me]) (by simp [results, Tryz.results11, go_sem, *]) rfl ?_
              rw [hr2.out]
              exact ⟨by simp [cfV, cfZ], (((((((hB.out.setCell (p := ⟨w.heap.size, 0, none⟩) (Nat.le_refl _) _).setCell (p := ⟨w.heap.size, 1, none⟩) (Nat.le_refl _) _).setCell (p := ⟨w.heap.size, 2, none⟩) (Nat.le_refl _) _).setCell (p := ⟨w.heap.size, 3, none⟩) (Nat.le_refl _) _).setCell (p := ⟨w.heap.size, 4, none⟩) (Nat.le_refl _) _).setCell (p := ⟨w.heap.size, 5, none⟩) (Nat.le_refl _) _).setCell (p := ⟨w.heap.size, 6, none⟩) (Nat.le_refl _) _)⟩
          | true =>
            have hcf : cf ≠ cfZ := hbg.out.1 rfl
            have hcg : cfgC cf = true := by
              rcases hG.out.1 with h | h
              · exact absurd h hcf
              · exact h
            obtain ⟨hT1, hT2⟩ := cfgC_c0 hcg
            have hln1 : lnE (cf, ms) ws = entE cf.c0.toNat ms ws := by unfold lnE; rw [if_neg hws0, if_neg hcf]
            have hln2 : lnS (cf, ms) ws = (cf, entM cf.c0.toNat ms ws) := by unfold lnS; rw [if_neg hws0, if_neg hcf]
            have hstep2 := hstep.out
            rw [hln1, hln2] at hstep2
            have hms : ms.length ≤ 65536 := hG.out.2
            have M1 : Hid (Calls Tryz.prog 25 #[.slice aw ws.length cw] w5 fun e w' => ∃ (m0 m1 m2 m3 k : Int) (rd : Bool) (er : Int), e = .returned (.tuple #[.agg #[.int .i64 m0, .int .i64 m1, .int .i64 m2, .int .i64 m3], .int .i64 k, .bool rd, .int .i64 er]) ∧ Dm ws ⟨m0, m1, m2, m3⟩ k rd er ∧ (rd = true → m1 = 0 ∧ m2 = 0 ∧ m3 = 0) ∧ Below w5.heap.size w5 w') := (move_any ws aw ws.length cw w5 hW5.out hgw.out hw3.out hw4 hcw hws0).mono (fun e w' h => by
              obtain ⟨⟨m0, m1, m2, m3⟩, k, rd, er, h1, ⟨h2, h4⟩, h3⟩ := h
              exact ⟨m0, m1, m2, m3, k, rd, er, h1, h2, fun h => by have := h4 h; unfold noMv at this; injection this with a b c d; exact ⟨b, c, d⟩, h3⟩)
            obtain ⟨n0, n1, n2, n3, n4, n5, n6⟩ := cf
            dsimp only at hT1 hT2 hstep2
            obtain ⟨T, hTe⟩ : ∃ T : Nat, n0 = (T : Int) := ⟨n0.toNat, by omega⟩
            subst hTe
            have hT : Hid (1 ≤ T) := by show _ ≤ _; omega
            have hTb : Hid (T ≤ 16) := by show _ ≤ _; omega
            rw [Int.toNat_natCast] at hstep2
            have hcfz := Mr.hid hcf
            clear hcf hcg hln1 hln2 hbg hgw hw3 hW5 hcw hstep hT1 hT2
            replace hstep2 := Mr.hid hstep2
            go_upto_region 23 with (go_at_call 25; refine M1.out.mono ?_; clear M1; rintro e w6 ⟨m0, m1, m2, m3, k, rd, er, rfl, hDm, hz3, B6⟩)
            have hPr := Pr.of (hP5.out.below B6) ⟨m0, m1, m2, m3⟩
            have hbmb : w6.heap.size < (w6.alloc (.cells #[.int .i64 m0, .int .i64 m1, .int .i64 m2, .int .i64 m3] 42)).heap.size := by simp
            unfold Mv.cells at hPr
            dsimp only at hPr
            clear B6 hP5
            generalize w6.alloc (.cells #[.int .i64 m0, .int .i64 m1, .int .i64 m2, .int .i64 m3] 42) = w7 at *
            generalize w6.heap.size = bm at *
            replace hstep2 := hstep2.out
            by_cases he : er = 0
            · subst he
              obtain ⟨hk1, hk2, -, -⟩ := hDm.ok rfl
              obtain ⟨K, hK⟩ : ∃ K : Nat, k = (K : Int) := ⟨k.toNat, by omega⟩
              subst hK
              have hKb : Hid (K ≤ 65536) := by show _ ≤ _; omega
              have hK1 : K ≤ 65536 := by omega
              clear hk1 hk2
              cases rd with
              | false =>
                have hent := hDm.ent T hT.out ms
                obtain ⟨Q, hQK⟩ : ∃ Q : Nat, Q = K := ⟨_, rfl⟩
                have hitn : itN T (K : Int) false = Q := by rw [hQK]; simp [itN]
                rw [hitn] at hent
                have hQb : Q ≤ 1048576 := by omega
                have hadd : IntKind.i64.wrap ((ms.length : Int) + (Q : Int)) = (ms.length : Int) + (Q : Int) := i64x _ (by omega) (by omega)
                have hq2 : ((K : Int)) = (Q : Int) := by rw [hQK]
                replace hitn := Mr.hid hitn
                replace hQK := Mr.hid hQK
                replace hq2 := Mr.hid hq2
                have hcbx := hPr.cbx
                unfold cfA at hcbx
                dsimp only at hcbx
                have d0 := cell_blk hcbx 0
                have lc := (Array.getElem?_eq_some_iff.1 hcbx).1
                by_cases hbig : 65536 < ms.length + Q
                · have hE3 := hent.1 hbig
                  rw [hE3, if_neg (by decide)] at hstep2
                  have hr2 : Hid (r = .inl (ln + 1, 3)) := by have h := hr.out; rw [hstep2] at h; exact h
                  have kb : decide ((65536 : Int) < (ms.length : Int) + (Q : Int)) = true := decide_eq_true (by omega)
                  have kb2 : (65536 : Int) < (ms.length : Int) + (Q : Int) := by omega
                  have b0 := hPr.box
                  unfold z7A at b0
                  have x0 := cell_blk b0 0
                  have x1 := cell_blk b0 1
                  have x2 := cell_blk b0 2
                  have x3 := cell_blk b0 3
                  have x4 := cell_blk b0 4
                  have x5 := cell_blk b0 5
                  have x6 := cell_blk b0 6
                  have hfz : ∀ k, w7.frozen? ⟨w.heap.size, k, none⟩ = false := fun k => by simp [World.frozen?, b0]
                  have lb := (Array.getElem?_eq_some_iff.1 b0).1
                  have hB := Mr.hid hPr.bel
                  clear b0 hPr hcbx hstep2 hE3 hent hr hDm hbig
                  have hKQ : K = Q := hQK.out.symm
                  subst hKQ
                  go_wp2
                  refine bodyPost_ret (v := .tuple #[.agg #[.int .i64 0, .int .i64 0, .int .i64 0, .int .i64 0, .int .i64 0, .int .i64 0, .int .i64 0], .slice none 0 0, .int .i64 ((ln : Int) + 1), .int .i64 3]) (by simp [results, Tryz.results11, go_sem, *]) rfl ?_
                  rw [hr2.out]
                  exact ⟨by simp [cfV, cfZ], (((((((hB.out.setCell (p := ⟨w.heap.size, 0, none⟩) (Nat.le_refl _) _).setCell (p := ⟨w.heap.size, 1, none⟩) (Nat.le_refl _) _).setCell (p := ⟨w.heap.size, 2, none⟩) (Nat.le_refl _) _).setCell (p := ⟨w.heap.size, 3, none⟩) (Nat.le_refl _) _).setCell (p := ⟨w.heap.size, 4, none⟩) (Nat.le_refl _) _).setCell (p := ⟨w.heap.size, 5, none⟩) (Nat.le_refl _) _).setCell (p := ⟨w.heap.size, 6, none⟩) (Nat.le_refl _) _)⟩
                · obtain ⟨hE0, hEM⟩ := hent.2 (by omega)
                  rw [hE0, if_pos rfl] at hstep2
                  have kb : decide ((65536 : Int) < (ms.length : Int) + (Q : Int)) = false := decide_eq_false (by omega)
                  have kb2 : ¬ (65536 : Int) < (ms.length : Int) + (Q : Int) := by omega
                  have hG2 : Hid (Gs (⟨(T : Int), n1, n2, n3, n4, n5, n6⟩, ms ++ its T ⟨m0, m1, m2, m3⟩ (K : Int) false)) := ⟨hG.out.1, by show _ ≤ _; rw [List.length_append, its_len, hitn.out]; omega⟩
                  have hnx : Hid (prX (s.data.toList.drop (j + 1)).length (ln + 1 + 1) (s.data.toList.drop (j + 1)) (⟨(T : Int), n1, n2, n3, n4, n5, n6⟩, ms ++ its T ⟨m0, m1, m2, m3⟩ (K : Int) false) = PX) := by rw [hEM] at hstep2; exact hstep2.symm
                  replace hPr := Mr.hid hPr
                  clear hcbx hstep2 hE0 hEM hent hr hDm hbig hG
                  have hKQ : K = Q := hQK.out.symm
                  subst hKQ
                  go_upto_region 31 with fail
                  clear kb kb2
                  go_loopg [7, 20] K (fun gk s7 s20 wq => ∃ (u : Value) (q : Nat) (mo : Mv), s7 = u ∧ s20 = .int .i64 (q : Int) ∧ q + gk = K ∧ Pr w wq ⟨(T : Int), n1, n2, n3, n4, n5, n6⟩ bm mo (ms ++ (its T ⟨m0, m1, m2, m3⟩ (K : Int) false).take q) u ∧ mo = ⟨m0, m1, m2, m3⟩)
                  case atStart => exact ⟨_, 0, ⟨m0, m1, m2, m3⟩, rfl, rfl, by omega, by rw [List.take_zero, List.append_nil]; exact hPr.out, rfl⟩
                  case round =>
                    obtain ⟨u, q, mo, rfl, rfl, hq, hR, hmo⟩ := hrel
                    have hlq : (ms ++ (its T ⟨m0, m1, m2, m3⟩ (K : Int) false).take q).length = ms.length + q := by rw [List.length_append, List.length_take, its_len, hitn.out]; omega
                    obtain ⟨au, cu, rfl, hcu⟩ := hR.row.form
                    clear hPr
                    by_cases hqt : q < K
                    · have hqI : (q : Int) < (K : Int) := by omega
                      have dq : decide ((q : Int) < (K : Int)) = true := by simpa using hqI
                      have hwq : IntKind.i64.wrap ((q : Int) + 1) = (q : Int) + 1 := i64x _ (by omega) (by omega)
                      have hq' := Mr.hid hq
                      have htk := Mr.hid (its_succ_m T ⟨m0, m1, m2, m3⟩ (K : Int) q (by simpa using hqt))
                      subst hmo
                      have hmb := hR.mbx
                      unfold Mv.cells at hmb
                      dsimp only at hmb
                      have e0 := cell_blk hmb 0
                      have e1 := cell_blk hmb 1
                      have e2 := cell_blk hmb 2
                      have e3 := cell_blk hmb 3
                      have lm := (Array.getElem?_eq_some_iff.1 hmb).1
                      have hR' := Mr.hid hR
                      rw [hlq] at hcu ⊢
                      clear hq hmb hR
                      go_wp2_with (at_builtin; refine wpList_append_has _ rfl _ _ 24 rfl (fun k => w.heap.size + 2 ≤ k ∧ k ≠ bm) 42 im _ 4 32 Tryz.underlying24 him hm0 hm1 hm2 rfl _ _ _ rfl ((by have h := hR'.out.row; rw [hlq] at h; exact h.alloc _)) ⟨wr.heap.size, 0, none⟩ 1 1 (⟨m0, m1, m2, m3⟩ : Mv).cells rfl rfl (newsM _ _ _ rfl rfl) (by intro u hu; exact mvc_one [⟨m0, m1, m2, m3⟩] u (by simpa [mvc] using hu)) (by decide) (by unfold maxLen; omega) (by omega) (by have := hR'.out.bel.size; have := hR'.out.lt; have := hR'.out.hbm; simp; omega) ?_; intro g2 cap2 w3 hh3 hgr hgg)
                      have hR3 : Hid (Pr w w3 ⟨(T : Int), n1, n2, n3, n4, n5, n6⟩ bm ⟨m0, m1, m2, m3⟩ (ms ++ (its T ⟨m0, m1, m2, m3⟩ (K : Int) false).take (q + 1)) (.slice (some ⟨g2, 0, none⟩) (ms.length + q + 1) cap2)) := by
                        show Pr _ _ _ _ _ _ _
                        rw [htk.out, ← List.append_assoc]
                        exact hR'.out.more (.slice au (ms.length + q) cu) (by rw [hlq]) hgr (by rw [hlq]; exact hh3)
                      clear hh3 hgr hgg hR' e0 e1 e2 e3 lm
                      go_wp2
                      go_roundg (gk - 1)
                      case measure => have := hq'.out; omega
                      case rel => exact ⟨_, q + 1, _, rfl, by simp, by have := hq'.out; omega, hR3.out, rfl⟩
                    · have hqQ : q = K := by omega
                      have dq : decide ((q : Int) < (K : Int)) = false := decide_eq_false (by omega)
                      have dq2 : ¬ (q : Int) < (K : Int) := by omega
                      have hfin : (its T ⟨m0, m1, m2, m3⟩ (K : Int) false).take q = its T ⟨m0, m1, m2, m3⟩ (K : Int) false := List.take_of_length_le (by rw [its_len, hitn.out]; omega)
                      rw [hlq]
                      rw [hfin] at hR
                      have hl2 : (ms ++ its T ⟨m0, m1, m2, m3⟩ (K : Int) false).length = ms.length + q := by rw [List.length_append, its_len, hitn.out]; omega
                      have hPn : Hid (Pq w wr ⟨(T : Int), n1, n2, n3, n4, n5, n6⟩ (ms ++ its T ⟨m0, m1, m2, m3⟩ (K : Int) false) (.slice au (ms.length + q) cu)) := by have h := hR.pq; rw [hl2] at h; exact h
                      clear hl2
                      replace hqQ := Mr.hid hqQ
                      clear hR hq hqt hfin hmo hcu
                      go_wp2
                      go_roundg (s.size - j)
                      case measure => have := hi'.out; omega
                      case rel => exact ⟨_, true, ln + 1, j + 1, ⟨(T : Int), n1, n2, n3, n4, n5, n6⟩, _, rfl, rfl, by simp, by simp, by omega, by omega, hPn.out, ⟨fun _ => hcfz.out, fun _ => rfl⟩, hG2.out, hnx.out⟩
              | true =>
                have hent := hDm.ent T hT.out ms
                obtain ⟨Q, hQK⟩ : ∃ Q : Nat, Q = K * T := ⟨_, rfl⟩
                have hitn : itN T (K : Int) true = Q := by rw [hQK]; simp [itN]
                rw [hitn] at hent
                have hQb : Q ≤ 1048576 := by rw [hQK]; exact Nat.le_trans (Nat.mul_le_mul hKb.out hTb.out) (by decide)
                have hme : (K : Int) * (T : Int) = ((K * T : Nat) : Int) := by simp
                have hmul : IntKind.i64.wrap ((K : Int) * (T : Int)) = (Q : Int) := by rw [hme, ← hQK]; exact i64x _ (by omega) (by omega)
                clear hme
                have hmz : Hid ((⟨m0, m1, m2, m3⟩ : Mv).op = 0 ∧ (⟨m0, m1, m2, m3⟩ : Mv).arg = 0 ∧ (⟨m0, m1, m2, m3⟩ : Mv).data = 0) := hz3 (by trivial)
                clear hz3
                have hadd : IntKind.i64.wrap ((ms.length : Int) + (Q : Int)) = (ms.length : Int) + (Q : Int) := i64x _ (by omega) (by omega)
                have hq2 : (((K * T : Nat) : Int)) = (Q : Int) := by rw [hQK]
                replace hitn := Mr.hid hitn
                replace hQK := Mr.hid hQK
                replace hq2 := Mr.hid hq2
                have hcbx := hPr.cbx
                unfold cfA at hcbx
                dsimp only at hcbx
                have d0 := cell_blk hcbx 0
                have lc := (Array.getElem?_eq_some_iff.1 hcbx).1
                by_cases hbig : 65536 < ms.length + Q
                · have hE3 := hent.1 hbig
                  rw [hE3, if_neg (by decide)] at hstep2
                  have hr2 : Hid (r = .inl (ln + 1, 3)) := by have h := hr.out; rw [hstep2] at h; exact h
                  have kb : decide ((65536 : Int) < (ms.length : Int) + (Q : Int)) = true := decide_eq_true (by omega)
                  have kb2 : (65536 : Int) < (ms.length : Int) + (Q : Int) := by omega
                  have b0 := hPr.box
                  unfold z7A at b0
                  have x0 := cell_blk b0 0
                  have x1 := cell_blk b0 1
                  have x2 := cell_blk b0 2
                  have x3 := cell_blk b0 3
                  have x4 := cell_blk b0 4
                  have x5 := cell_blk b0 5
                  have x6 := cell_blk b0 6
                  have hfz : ∀ k, w7.frozen? ⟨w.heap.size, k, none⟩ = false := fun k => by simp [World.frozen?, b0]
                  have lb := (Array.getElem?_eq_some_iff.1 b0).1
                  have hB := Mr.hid hPr.bel
                  clear b0 hPr hcbx hstep2 hE3 hent hr hDm hbig
                  go_wp2
                  refine bodyPost_ret (v := .tuple #[.agg #[.int .i64 0, .int .i64 0, .int .i64 0, .int .i64 0, .int .i64 0, .int .i64 0, .int .i64 0], .slice none 0 0, .int .i64 ((ln : Int) + 1), .int .i64 3]) (by simp [results, Tryz.results11, go_sem, *]) rfl ?_
                  rw [hr2.out]
                  exact ⟨by simp [cfV, cfZ], (((((((hB.out.setCell (p := ⟨w.heap.size, 0, none⟩) (Nat.le_refl _) _).setCell (p := ⟨w.heap.size, 1, none⟩) (Nat.le_refl _) _).setCell (p := ⟨w.heap.size, 2, none⟩) (Nat.le_refl _) _).setCell (p := ⟨w.heap.size, 3, none⟩) (Nat.le_refl _) _).setCell (p := ⟨w.heap.size, 4, none⟩) (Nat.le_refl _) _).setCell (p := ⟨w.heap.size, 5, none⟩) (Nat.le_refl _) _).setCell (p := ⟨w.heap.size, 6, none⟩) (Nat.le_refl _) _)⟩
                · obtain ⟨hE0, hEM⟩ := hent.2 (by omega)
                  rw [hE0, if_pos rfl] at hstep2
                  have kb : decide ((65536 : Int) < (ms.length : Int) + (Q : Int)) = false := decide_eq_false (by omega)
                  have kb2 : ¬ (65536 : Int) < (ms.length : Int) + (Q : Int) := by omega
                  have hG2 : Hid (Gs (⟨(T : Int), n1, n2, n3, n4, n5, n6⟩, ms ++ its T ⟨m0, m1, m2, m3⟩ (K : Int) true)) := ⟨hG.out.1, by show _ ≤ _; rw [List.length_append, its_len, hitn.out]; omega⟩
                  have hnx : Hid (prX (s.data.toList.drop (j + 1)).length (ln + 1 + 1) (s.data.toList.drop (j + 1)) (⟨(T : Int), n1, n2, n3, n4, n5, n6⟩, ms ++ its T ⟨m0, m1, m2, m3⟩ (K : Int) true) = PX) := by rw [hEM] at hstep2; exact hstep2.symm
                  replace hPr := Mr.hid hPr
                  clear hcbx hstep2 hE0 hEM hent hr hDm hbig hG
                  go_upto_region 31 with fail
                  clear kb kb2
                  go_loopg [7, 20] Q (fun gk s7 s20 wq => ∃ (u : Value) (q : Nat) (mo : Mv), s7 = u ∧ s20 = .int .i64 (q : Int) ∧ q + gk = Q ∧ Pr w wq ⟨(T : Int), n1, n2, n3, n4, n5, n6⟩ bm mo (ms ++ (its T ⟨m0, m1, m2, m3⟩ (K : Int) true).take q) u ∧ (mo.op = 0 ∧ mo.arg = 0 ∧ mo.data = 0))
                  case atStart => exact ⟨_, 0, ⟨m0, m1, m2, m3⟩, rfl, rfl, by omega, by rw [List.take_zero, List.append_nil]; exact hPr.out, hmz.out⟩
                  case round =>
                    obtain ⟨u, q, mo, rfl, rfl, hq, hR, hmo⟩ := hrel
                    have hlq : (ms ++ (its T ⟨m0, m1, m2, m3⟩ (K : Int) true).take q).length = ms.length + q := by rw [List.length_append, List.length_take, its_len, hitn.out]; omega
                    obtain ⟨au, cu, rfl, hcu⟩ := hR.row.form
                    clear hPr
                    by_cases hqt : q < Q
                    · have hqI : (q : Int) < (Q : Int) := by omega
                      have dq : decide ((q : Int) < (Q : Int)) = true := by simpa using hqI
                      have hwq : IntKind.i64.wrap ((q : Int) + 1) = (q : Int) + 1 := i64x _ (by omega) (by omega)
                      have hq' := Mr.hid hq
                      have htk := Mr.hid (its_succ_r T ⟨m0, m1, m2, m3⟩ (K : Int) q (by rw [hQK.out] at hqt; simpa using hqt))
                      have hR0 := hR.put ((q % T : Nat) : Int)
                      have hmb := hR.mbx
                      obtain ⟨y0, y1, y2, y3⟩ := mo
                      obtain ⟨hy1, hy2, hy3⟩ := hmo
                      dsimp only at hy1 hy2 hy3
                      subst hy1
                      subst hy2
                      subst hy3
                      unfold Mv.cells at hmb
                      dsimp only at hmb hR0
                      have hcx := hR.cbx
                      unfold cfA at hcx
                      dsimp only at hcx
                      have d0 := cell_blk hcx 0
                      have lc := (Array.getElem?_eq_some_iff.1 hcx).1
                      have e0 := cell_blk hmb 0
                      have e1 := cell_blk hmb 1
                      have e2 := cell_blk hmb 2
                      have e3 := cell_blk hmb 3
                      have lm := (Array.getElem?_eq_some_iff.1 hmb).1
                      have hfm : ∀ k, wr.frozen? ⟨bm, k, none⟩ = false := fun k => by simp [World.frozen?, hmb]
                      have hrem := rem_nat q T hT.out
                      have hrw : IntKind.i64.wrap ((q % T : Nat) : Int) = ((q % T : Nat) : Int) := i64x _ (by omega) (by have h1 := Nat.mod_lt q (show T > 0 by have := hT.out; omega); have h2 := hTb.out; omega)
                      have hT0 : ¬ (T : Int) = 0 := by have := hT.out; omega
                      have hT0' : ((T : Int) == 0) = false := beq_eq_false_iff_ne.2 hT0
                      generalize ((q % T : Nat) : Int) = z at *
                      have hR' := Mr.hid hR0
                      rw [hlq] at hcu ⊢
                      clear hq hmb hR hR0 hcx
                      go_upto_region 35 with fail
                      clear e0 e1 e2 e3 hfm hrem hrw hT0 hT0' d0 lc lm
                      generalize wr.setCell ⟨bm, 0, none⟩ (.int .i64 z) = w6q at *
                      have hmb := hR'.out.mbx
                      unfold Mv.cells at hmb
                      dsimp only at hmb
                      have e0 := cell_blk hmb 0
                      have e1 := cell_blk hmb 1
                      have e2 := cell_blk hmb 2
                      have e3 := cell_blk hmb 3
                      have lm := (Array.getElem?_eq_some_iff.1 hmb).1
                      clear hmb
                      go_wp2_with (at_builtin; refine wpList_append_has _ rfl _ _ 24 rfl (fun k => w.heap.size + 2 ≤ k ∧ k ≠ bm) 42 im _ 4 32 Tryz.underlying24 him hm0 hm1 hm2 rfl _ _ _ rfl ((by have h := hR'.out.row; rw [hlq] at h; exact h.alloc _)) ⟨w6q.heap.size, 0, none⟩ 1 1 (stp z).cells rfl rfl (newsM _ _ _ rfl rfl) (by intro u hu; exact mvc_one [stp z] u (by simpa [mvc] using hu)) (by decide) (by unfold maxLen; omega) (by omega) (by have := hR'.out.bel.size; have := hR'.out.lt; have := hR'.out.hbm; simp; omega) ?_; intro g2 cap2 w3 hh3 hgr hgg)
                      have hR3 : Hid (Pr w w3 ⟨(T : Int), n1, n2, n3, n4, n5, n6⟩ bm ⟨z, 0, 0, 0⟩ (ms ++ (its T ⟨m0, m1, m2, m3⟩ (K : Int) true).take (q + 1)) (.slice (some ⟨g2, 0, none⟩) (ms.length + q + 1) cap2)) := by
                        show Pr _ _ _ _ _ _ _
                        rw [htk.out, ← List.append_assoc]
                        exact hR'.out.more (.slice au (ms.length + q) cu) (by rw [hlq]) hgr (by rw [hlq]; exact hh3)
                      clear hh3 hgr hgg hR' e0 e1 e2 e3 lm
                      go_wp2
                      go_roundg (gk - 1)
                      case measure => have := hq'.out; omega
                      case rel => exact ⟨_, q + 1, ⟨z, 0, 0, 0⟩, rfl, by simp, by have := hq'.out; omega, hR3.out, ⟨rfl, rfl, rfl⟩⟩
                    · have hqQ : q = Q := by omega
                      have dq : decide ((q : Int) < (Q : Int)) = false := decide_eq_false (by omega)
                      have dq2 : ¬ (q : Int) < (Q : Int) := by omega
                      have hfin : (its T ⟨m0, m1, m2, m3⟩ (K : Int) true).take q = its T ⟨m0, m1, m2, m3⟩ (K : Int) true := List.take_of_length_le (by rw [its_len, hitn.out]; omega)
                      rw [hlq]
                      rw [hfin] at hR
                      have hl2 : (ms ++ its T ⟨m0, m1, m2, m3⟩ (K : Int) true).length = ms.length + q := by rw [List.length_append, its_len, hitn.out]; omega
                      have hPn : Hid (Pq w wr ⟨(T : Int), n1, n2, n3, n4, n5, n6⟩ (ms ++ its T ⟨m0, m1, m2, m3⟩ (K : Int) true) (.slice au (ms.length + q) cu)) := by have h := hR.pq; rw [hl2] at h; exact h
                      clear hl2
                      replace hqQ := Mr.hid hqQ
                      clear hR hq hqt hfin hmo hcu
                      go_wp2
                      go_roundg (s.size - j)
                      case measure => have := hi'.out; omega
                      case rel => exact ⟨_, true, ln + 1, j + 1, ⟨(T : Int), n1, n2, n3, n4, n5, n6⟩, _, rfl, rfl, by simp, by simp, by omega, by omega, hPn.out, ⟨fun _ => hcfz.out, fun _ => rfl⟩, hG2.out, hnx.out⟩
            · have hE3 := hDm.bad he T ms hT.out
              rw [hE3, if_neg he] at hstep2
              have hr2 : Hid (r = .inl (ln + 1, er)) := by have h := hr.out; rw [hstep2] at h; exact h
              have kne : (er != 0) = true := bne_iff_ne.2 he
              have b0 := hPr.box
              unfold z7A at b0
              have x0 := cell_blk b0 0
              have x1 := cell_blk b0 1
              have x2 := cell_blk b0 2
              have x3 := cell_blk b0 3
              have x4 := cell_blk b0 4
              have x5 := cell_blk b0 5
              have x6 := cell_blk b0 6
              have hfz : ∀ k, w7.frozen? ⟨w.heap.size, k, none⟩ = false := fun k => by simp [World.frozen?, b0]
              have lb := (Array.getElem?_eq_some_iff.1 b0).1
              have hB := Mr.hid hPr.bel
              clear b0 hPr hstep2 hE3 hr hDm hz3
              go_wp2
              refine bodyPost_ret (v := .tuple #[.agg #[.int .i64 0, .int .i64 0, .int .i64 0, .int .i64 0, .int .i64 0, .int .i64 0, .int .i64 0], .slice none 0 0, .int .i64 ((ln : Int) + 1), .int .i64 er]) (by simp [results, Tryz.results11, go_sem, *]) rfl ?_
              rw [hr2.out]
              exact ⟨by simp [cfV, cfZ], (((((((hB.out.setCell (p := ⟨w.heap.size, 0, none⟩) (Nat.le_refl _) _).setCell (p := ⟨w.heap.size, 1, none⟩) (Nat.le_refl _) _).setCell (p := ⟨w.heap.size, 2, none⟩) (Nat.le_refl _) _).setCell (p := ⟨w.heap.size, 3, none⟩) (Nat.le_refl _) _).setCell (p := ⟨w.heap.size, 4, none⟩) (Nat.le_refl _) _).setCell (p := ⟨w.heap.size, 5, none⟩) (Nat.le_refl _) _).setCell (p := ⟨w.heap.size, 6, none⟩) (Nat.le_refl _) _)⟩
    · have hd : s.data.toList.drop i = [] := List.drop_of_length_le (by have := hlen.out; omega)
      rw [hd] at hpr
      have hpx : PX = .inr (cf, ms) := by rw [← hpr]; rfl
      rw [hpx] at hr
      have dl : decide ((i : Int) < (s.size : Int)) = false := decide_eq_false (by omega)
      have dl2 : ¬ (i : Int) < (s.size : Int) := by omega
      clear hd hpr hpx hi hlt RW
      cases bg with
      | false =>
        have hcf : cf = cfZ := Classical.byContradiction fun h => by have := hbg.out.2 h; cases this
        have hr2 : Hid (r = .inl (0, 172)) := by have h := hr.out; rw [h]; show (if cf = cfZ then _ else _) = _; rw [if_pos hcf]
        have b0 := hP.box
        unfold z7A at b0
        have x0 := cell_blk b0 0
        have x1 := cell_blk b0 1
        have x2 := cell_blk b0 2
        have x3 := cell_blk b0 3
        have x4 := cell_blk b0 4
        have x5 := cell_blk b0 5
        have x6 := cell_blk b0 6
        have hfz : ∀ k, wr.frozen? ⟨w.heap.size, k, none⟩ = false := fun k => by simp [World.frozen?, b0]
        have lb := (Array.getElem?_eq_some_iff.1 b0).1
        have hB := Mr.hid hP.bel
        clear b0 hP hcf hr hbg hG
        go_wp2
        refine bodyPost_ret (v := .tuple #[.agg #[.int .i64 0, .int .i64 0, .int .i64 0, .int .i64 0, .int .i64 0, .int .i64 0, .int .i64 0], .slice none 0 0, .int .i64 0, .int .i64 172]) (by simp [results, Tryz.results11, go_sem, *]) rfl ?_
        rw [hr2.out]
        exact ⟨rfl, (((((((hB.out.setCell (p := ⟨w.heap.size, 0, none⟩) (Nat.le_refl _) _).setCell (p := ⟨w.heap.size, 1, none⟩) (Nat.le_refl _) _).setCell (p := ⟨w.heap.size, 2, none⟩) (Nat.le_refl _) _).setCell (p := ⟨w.heap.size, 3, none⟩) (Nat.le_refl _) _).setCell (p := ⟨w.heap.size, 4, none⟩) (Nat.le_refl _) _).setCell (p := ⟨w.heap.size, 5, none⟩) (Nat.le_refl _) _).setCell (p := ⟨w.heap.size, 6, none⟩) (Nat.le_refl _) _)⟩
      | true =>
        have hcf : cf ≠ cfZ := hbg.out.1 rfl
        have hr2 : Hid (r = .inr (cf, ms)) := by have h := hr.out; rw [h]; show (if cf = cfZ then _ else _) = _; rw [if_neg hcf]
        obtain ⟨n0, n1, n2, n3, n4, n5, n6⟩ := cf
        have b0 := hP.box
        unfold z7A at b0
        have x0 := cell_blk b0 0
        have x1 := cell_blk b0 1
        have x2 := cell_blk b0 2
        have x3 := cell_blk b0 3
        have x4 := cell_blk b0 4
        have x5 := cell_blk b0 5
        have x6 := cell_blk b0 6
        have hfz : ∀ k, wr.frozen? ⟨w.heap.size, k, none⟩ = false := fun k => by simp [World.frozen?, b0]
        have lb := (Array.getElem?_eq_some_iff.1 b0).1
        have b1 := hP.cbx
        unfold cfA at b1
        dsimp only at b1
        have z0 := cell_blk b1 0
        have z1 := cell_blk b1 1
        have z2 := cell_blk b1 2
        have z3 := cell_blk b1 3
        have z4 := cell_blk b1 4
        have z5 := cell_blk b1 5
        have z6 := cell_blk b1 6
        have lb1 := (Array.getElem?_eq_some_iff.1 b1).1
        have hB := Mr.hid hP.bel
        have hrow := Mr.hid hP.row
        clear b0 b1 hP hcf hr hbg hG
        go_wp2
        refine bodyPost_ret (v := .tuple #[.agg #[.int .i64 n0, .int .i64 n1, .int .i64 n2, .int .i64 n3, .int .i64 n4, .int .i64 n5, .int .i64 n6], .slice av ms.length cv, .int .i64 0, .int .i64 0]) (by simp [results, Tryz.results11, go_sem, *]) rfl ?_
        rw [hr2.out]
        have hno : (Value.slice av ms.length cv).ownBlock ≠ some w.heap.size := fun e => by have := (hrow.out.lt _ e).1; omega
        refine ⟨_, rfl, Has.mono (T := fun k => w.heap.size ≤ k) (((((((hrow.out.setCell _ _ hno).setCell _ _ hno).setCell _ _ hno).setCell _ _ hno).setCell _ _ hno).setCell _ _ hno).setCell _ _ hno) (fun k hk => by omega), ?_⟩
        exact (((((((hB.out.setCell (p := ⟨w.heap.size, 0, none⟩) (Nat.le_refl _) _).setCell (p := ⟨w.heap.size, 1, none⟩) (Nat.le_refl _) _).setCell (p := ⟨w.heap.size, 2, none⟩) (Nat.le_refl _) _).setCell (p := ⟨w.heap.size, 3, none⟩) (Nat.le_refl _) _).setCell (p := ⟨w.heap.size, 4, none⟩) (Nat.le_refl _) _).setCell (p := ⟨w.heap.size, 5, none⟩) (Nat.le_refl _) _).setCell (p := ⟨w.heap.size, 6, none⟩) (Nat.le_refl _) _)
end Go.Proofs.YtcomelbphdjnnaaGreatDoor.Sc
