import Derived.Test.YtcomelbphdjnnaaGreatDoorJ38
import Derived.Deep.RegionHeld3
import Derived.Test.YtcomelbphdjnnaaGreatDoorJ39
/-
  SCRIPT: the document's move, no line at all.
-/
namespace Go.Proofs.YtcomelbphdjnnaaGreatDoor.Sc
open Go.RowKit Mr
set_option linter.unusedVariables false
set_option linter.unusedSimpArgs false
set_option maxRecDepth 100000
set_option maxHeartbeats 16000000 in
theorem move_none (x0 x1 : List UInt8) (r : List (List UInt8)) (a : Option Addr) (n c : Nat) (w : World) (hW : WsAt w a n (x0 :: x1 :: r)) (hsz : ∀ x ∈ x0 :: x1 :: r, x.length ≤ 1048576) (hn : n ≤ 1048576) (hcap : n ≤ c) (h0 : x0 ≠ [42])
    (opv tk : Int) (OP : ∀ W, Calls Tryz.prog 41 #[.string ⟨x1.toArray⟩] W fun e w' => e = .returned (.int .i64 opv) ∧ w' = W)
    (AR : 0 < opv → ∀ W, Calls Tryz.prog 33 #[.int .i64 opv] W fun e w' => e = .returned (.int .i64 tk) ∧ w' = W) (htk : 0 ≤ tk ∧ tk ≤ 2)
    (hk : (x1 = [46] → ¬ r.length ≤ 1) ∧ (x1 = [111, 112] → r.length ≠ 3) ∧ (0 < opv → (r.length : Int) ≠ tk))
    (hDm : ∀ mv' n' rd, Dm (x0 :: x1 :: r) mv' n' rd 170) :
    Calls Tryz.prog 25 #[.slice a n c] w (MoA w (x0 :: x1 :: r)) := by
  replace hk := Mr.hid hk
  have hl : n = r.length + 2 := by have := hW.1; simp only [List.length_cons] at this; omega
  obtain ⟨g, rfl, hgl, hc⟩ := hW.at (by omega)
  have c0 := hc 0 (by omega)
  have c1 := hc 1 (by omega)
  rw [List.getD_cons_zero] at c0
  rw [List.getD_cons_succ, List.getD_cons_zero] at c1
  obtain ⟨si, hsi, hs0, hs1, hs2⟩ := info_s
  have hWO := WsO.of hW
  have OPh := Mr.hid OP
  have ARh := Mr.hid AR
  have kx0 : ¬ (⟨x0.toArray⟩ : ByteArray).toList = [42] := by rw [toList_mk]; exact h0
  have kx0' : ((⟨x0.toArray⟩ : ByteArray).toList == [42]) = false := beq_eq_false_iff_ne.2 kx0
  have FLT : Hid (∀ W v av cv, v = .slice av (r.length + 1) cv → Mt w W x0 r v → Calls Tryz.prog 38 #[v] W fun e w' => e = .returned (.int .i64 (fltL (x0 :: r))) ∧ w' = W) := fun W v av cv e h => by
    subst e
    exact faults_any (x0 :: r) av (r.length + 1) cv W (WsO.of (WsAt.of h.row)) (by omega) (fun x hx => hsz x (by rcases List.mem_cons.1 hx with e | e <;> simp [e]))
  have NB : Hid (∀ x ∈ x0 :: r, ∀ W, Calls Tryz.prog 39 #[.string ⟨x.toArray⟩] W fun e w' => ∃ y : Int, e = .returned (.tuple #[.int .i64 y, .bool (numOk x).isSome]) ∧ ((numOk x).isSome = true → y = numV x) ∧ w' = W) := fun x hx W => by have := rNumber_any ⟨x.toArray⟩ W (by have := hsz x (by rcases List.mem_cons.1 hx with e | e <;> simp [e]); simp [ByteArray.size]; omega); simpa using this
  have hrow0 : ∀ (W : World) (t : TypeId), w.heap.size + 1 ≤ W.heap.size → Has (W.alloc (.cells #[.string ⟨x0.toArray⟩] 9)) (fun k => w.heap.size + 1 ≤ k) 9 1 (.slice (some ⟨W.heap.size, 0, none⟩) 1 1) 1 (strs [x0]) := fun W t h => has_new W _ 9 1 1 #[.string ⟨x0.toArray⟩] h (by decide) rfl
  have hsrc : Hid (∀ j u, (strs r)[j]? = some u → w.cell? ⟨g, 2 + j, none⟩ = some u) := fun j u hu => by
    simp only [strs, List.getElem?_map] at hu
    cases hx : r[j]? with
    | none => rw [hx] at hu; cases hu
    | some x =>
      rw [hx] at hu
      cases hu
      have hj := (List.getElem?_eq_some_iff.1 hx).1
      have := hc (2 + j) (by omega)
      rw [this]
      congr 3
      rw [show 2 + j = j + 1 + 1 by omega, List.getD_cons_succ, List.getD_cons_succ, List.getD_eq_getElem?_getD, hx]; rfl
  have kl : ¬ (n : Int) < 2 := by omega
  have kl' : decide ((n : Int) < 2) = false := decide_eq_false kl
  have kc : (2 : Int) ≤ (c : Int) := by omega
  have kc2 : (2 : Int) ≤ (n : Int) := by omega
  have kc3 : 2 ≤ n := by omega
  have ki0 : (0 : Int) < (n : Int) := by omega
  have ki1 : (1 : Int) < (n : Int) := by omega
  replace hl := Mr.hid hl
  generalize hX0 : (⟨x0.toArray⟩ : ByteArray) = X0 at *
  generalize hX1 : (⟨x1.toArray⟩ : ByteArray) = X1 at *
  have hX1' : X1.toList = x1 := by rw [← hX1, toList_mk]
  replace hX1' := Mr.hid hX1'
  replace hWO := Mr.hid hWO
  replace hrow0 := Mr.hid hrow0
  clear hW hc OP AR
  go_enter Tryz.func25, Tryz.ntmps25
  go_upto_region 9 with fail
  go_cut [8] (fun s8 wq => ∃ av cv, s8 = .slice av (r.length + 1) cv ∧ Mt w wq x0 r s8)
  case first =>
    have hlt : w.heap.size + 1 ≤ (w.alloc (.cells #[.int .i64 0, .int .i64 0, .int .i64 0, .int .i64 0] 42)).heap.size := by simp
    have hr0 := hrow0.out (w.alloc (.cells #[.int .i64 0, .int .i64 0, .int .i64 0, .int .i64 0] 42)) 0 hlt
    have hbx : ((w.alloc (.cells #[.int .i64 0, .int .i64 0, .int .i64 0, .int .i64 0] 42)).alloc (.cells #[.string X0] 9)).heap[w.heap.size]? = some (.cells #[.int .i64 0, .int .i64 0, .int .i64 0, .int .i64 0] 42 (0, 0)) := (Lib.alloc_old _ _ _ (by simp)).trans (new_at _ _ _ rfl)
    have hbl : Below w.heap.size w ((w.alloc (.cells #[.int .i64 0, .int .i64 0, .int .i64 0, .int .i64 0] 42)).alloc (.cells #[.string X0] 9)) := ((Below.refl _ _).alloc (Nat.le_refl _) _).alloc (by simp) _
    have hsz2 : ((w.alloc (.cells #[.int .i64 0, .int .i64 0, .int .i64 0, .int .i64 0] 42)).alloc (.cells #[.string X0] 9)).heap.size = w.heap.size + 2 := by simp
    have hs1' : (w.alloc (.cells #[.int .i64 0, .int .i64 0, .int .i64 0, .int .i64 0] 42)).heap.size = w.heap.size + 1 := by simp
    rw [hs1'] at hr0
    generalize (w.alloc (.cells #[.int .i64 0, .int .i64 0, .int .i64 0, .int .i64 0] 42)).alloc (.cells #[.string X0] 9) = w2 at *
    replace hr0 := Mr.hid hr0
    replace hbx := Mr.hid hbx
    replace hbl := Mr.hid hbl
    replace hsz2 := Mr.hid hsz2
    clear hlt hs1' hrow0 c0 c1
    by_cases hr : r = []
    · subst hr
      have hn2 : n = 2 := by have := hl.out; simpa using this
      subst hn2
      by_cases hc2 : 2 < c
      · have hcI : (2 : Int) < (c : Int) := by omega
        go_wp2_with (at_builtin; refine wpList_append_zero rfl _ _ 58 rfl 9 si Tryz.underlying58 hsi _ 1 1 (Nat.le_refl _) rfl _ _ rfl ?_)
        go_meet
        case rel => exact ⟨_, _, rfl, hbx.out, hr0.out, hbl.out⟩
      · obtain rfl : c = 2 := by omega
        go_wp2_with (at_builtin; refine wpList_append_zero rfl _ _ 58 rfl 9 si Tryz.underlying58 hsi _ 1 1 (Nat.le_refl _) rfl _ _ rfl ?_)
        go_meet
        case rel => exact ⟨_, _, rfl, hbx.out, hr0.out, hbl.out⟩
    · have hr1 : 0 < r.length := List.length_pos_iff.2 hr
      have hcI : (2 : Int) < (c : Int) := by have := hl.out; omega
      have hc2 : 2 < c := by omega
      have hsr : Hid (∀ j u, (strs r)[j]? = some u → w2.cell? ((⟨g, 2, none⟩ : Addr).add j) = some u) := fun j u hu => by
        rw [add1]
        exact (hbl.out.cell (p := ⟨g, 2 + j, none⟩) hgl).trans (hsrc.out j u hu)
      have hlr : Hid (n - 2 = r.length) := by show _ = _; have := hl.out; omega
      have hle : Hid (r.length ≤ 1048576) := by show _ ≤ _; have := hl.out; omega
      clear hsrc
      go_wp2_with (at_builtin; refine wpList_append_has _ rfl _ _ 58 rfl (fun k => w.heap.size + 1 ≤ k) 9 si (.string ⟨#[]⟩) 1 16 Tryz.underlying58 hsi hs0 hs1 hs2 rfl _ _ _ rfl hr0.out ⟨g, 2, none⟩ (n - 2) (c - 2) (strs r) rfl (by rw [hlr.out]; simp [strs]) hsr.out (strs_one r) (by have := hlr.out; omega) (by have := hlr.out; have := hle.out; unfold maxLen; omega) (by have := hlr.out; have := hle.out; omega) (by have := hsz2.out; omega) ?_; intro g2 cap2 w3 hh3 hgr hgg)
      have hB3 : Below (w.heap.size + 1) w2 w3 := (Below.refl _ _).grown hgr (by have := hsz2.out; omega) (fun k hk => (hr0.out.lt k hk).1)
      have e1 : 1 + (n - 2) = r.length + 1 := by have := hlr.out; omega
      rw [e1] at hh3 ⊢
      have hMt : Mt w w3 x0 r (.slice (some ⟨g2, 0, none⟩) (r.length + 1) cap2) := ⟨(hB3.block _ (by omega)).trans hbx.out, hh3, hbl.out.trans (hB3.mono (by omega))⟩
      replace hMt := Mr.hid hMt
      clear hh3 hgr hgg hB3 e1
      go_wp2
      go_meet
      case rel => exact ⟨_, _, rfl, hMt.out⟩
  case rest =>
    obtain ⟨av, cv, rfl, hMt⟩ := hcut
    generalize wc = w5 at *
    have c1' : w5.cell? ⟨g, 1, none⟩ = some (.string X1) := (hMt.bel.cell (p := ⟨g, 1, none⟩) hgl).trans c1
    have hg5 : g < w5.heap.size := Nat.lt_of_lt_of_le hgl hMt.bel.size
    have F5 := Mr.hid (FLT.out w5 _ av cv rfl hMt)
    have b5 := hMt.box
    replace hMt := Mr.hid hMt
    clear c0 c1 hrow0 hsrc FLT kl kl' kx0 kx0'
    have hD := Mr.hid (hDm noMv 0 false)
    have q0 := cell_blk b5 0
    have q1 := cell_blk b5 1
    have q2 := cell_blk b5 2
    have q3 := cell_blk b5 3
    have hfz : ∀ k, w5.frozen? ⟨w.heap.size, k, none⟩ = false := fun k => by simp [World.frozen?, b5]
    have lb := (Array.getElem?_eq_some_iff.1 b5).1
    have hB := Mr.hid hMt.out.bel
    clear hMt b5 NB F5 hWO hDm
    by_cases h1 : x1 = [46]
    · have k46 : (X1.toList == [46]) = true := by rw [hX1'.out, h1]; rfl
      have k46' : X1.toList = [46] := by rw [hX1'.out, h1]
      have k11 : (X1.toList == [111, 112]) = false := by rw [hX1'.out, h1]; rfl
      have k11' : ¬ X1.toList = [111, 112] := by rw [hX1'.out, h1]; decide
      have k3 : ¬ (n : Int) ≤ 3 := by have := hl.out; have := hk.out.1 h1; omega
      have k3' : decide ((n : Int) ≤ 3) = false := decide_eq_false k3
      replace h1 := Mr.hid h1
      by_cases ko : 0 < opv
      · have ko' : decide (0 < opv) = true := decide_eq_true ko
        have ARh2 := Mr.hid (ARh.out ko)
        have kw : IntKind.i64.wrap (2 + tk) = 2 + tk := i64x _ (by omega) (by omega)
        have kn : ((n : Int) == 2 + tk) = false := beq_eq_false_iff_ne.2 (by have := hl.out; have := hk.out.2.2 ko; omega)
        have kn' : ¬ (n : Int) = 2 + tk := by have := hl.out; have := hk.out.2.2 ko; omega
        clear ARh
        go_wp2_with (first | (go_at_call 41; refine (OPh.out _).mono ?_; clear OPh; rintro e w9 ⟨rfl, hw9⟩; obtain rfl := hw9.symm) | (go_at_call 33; refine (ARh2.out _).mono ?_; clear ARh2; rintro e w9 ⟨rfl, hw9⟩; obtain rfl := hw9.symm))
        refine bodyPost_ret (v := .tuple #[.agg #[.int .i64 0, .int .i64 0, .int .i64 0, .int .i64 0], .int .i64 0, .bool false, .int .i64 170]) (by simp [results, Tryz.results25, go_sem, *]) rfl ⟨noMv, 0, false, 170, rfl, ⟨hD.out, fun h => by cases h⟩, ?_⟩
        exact ((((hB.out.setCell (p := ⟨w.heap.size, 0, none⟩) (Nat.le_refl _) _).setCell (p := ⟨w.heap.size, 1, none⟩) (Nat.le_refl _) _).setCell (p := ⟨w.heap.size, 2, none⟩) (Nat.le_refl _) _).setCell (p := ⟨w.heap.size, 3, none⟩) (Nat.le_refl _) _)
      · have ko' : decide (0 < opv) = false := decide_eq_false ko
        clear ARh
        go_wp2_with (first | (go_at_call 41; refine (OPh.out _).mono ?_; clear OPh; rintro e w9 ⟨rfl, hw9⟩; obtain rfl := hw9.symm))
        refine bodyPost_ret (v := .tuple #[.agg #[.int .i64 0, .int .i64 0, .int .i64 0, .int .i64 0], .int .i64 0, .bool false, .int .i64 170]) (by simp [results, Tryz.results25, go_sem, *]) rfl ⟨noMv, 0, false, 170, rfl, ⟨hD.out, fun h => by cases h⟩, ?_⟩
        exact ((((hB.out.setCell (p := ⟨w.heap.size, 0, none⟩) (Nat.le_refl _) _).setCell (p := ⟨w.heap.size, 1, none⟩) (Nat.le_refl _) _).setCell (p := ⟨w.heap.size, 2, none⟩) (Nat.le_refl _) _).setCell (p := ⟨w.heap.size, 3, none⟩) (Nat.le_refl _) _)
    · have k46 : (X1.toList == [46]) = false := by rw [hX1'.out]; exact beq_eq_false_iff_ne.2 h1
      have k46' : ¬ X1.toList = [46] := by rw [hX1'.out]; exact h1
      by_cases h2 : x1 = [111, 112]
      · have k11 : (X1.toList == [111, 112]) = true := by rw [hX1'.out, h2]; rfl
        have k11' : X1.toList = [111, 112] := by rw [hX1'.out, h2]
        have k5 : ((n : Int) == 5) = false := beq_eq_false_iff_ne.2 (by have := hl.out; have := hk.out.2.1 h2; omega)
        have k5' : ¬ (n : Int) = 5 := by have := hl.out; have := hk.out.2.1 h2; omega
        replace h2 := Mr.hid h2
        by_cases ko : 0 < opv
        · have ko' : decide (0 < opv) = true := decide_eq_true ko
          have ARh2 := Mr.hid (ARh.out ko)
          have kw : IntKind.i64.wrap (2 + tk) = 2 + tk := i64x _ (by omega) (by omega)
          have kn : ((n : Int) == 2 + tk) = false := beq_eq_false_iff_ne.2 (by have := hl.out; have := hk.out.2.2 ko; omega)
          have kn' : ¬ (n : Int) = 2 + tk := by have := hl.out; have := hk.out.2.2 ko; omega
          clear ARh
          go_wp2_with (first | (go_at_call 41; refine (OPh.out _).mono ?_; clear OPh; rintro e w9 ⟨rfl, hw9⟩; obtain rfl := hw9.symm) | (go_at_call 33; refine (ARh2.out _).mono ?_; clear ARh2; rintro e w9 ⟨rfl, hw9⟩; obtain rfl := hw9.symm))
          refine bodyPost_ret (v := .tuple #[.agg #[.int .i64 0, .int .i64 0, .int .i64 0, .int .i64 0], .int .i64 0, .bool false, .int .i64 170]) (by simp [results, Tryz.results25, go_sem, *]) rfl ⟨noMv, 0, false, 170, rfl, ⟨hD.out, fun h => by cases h⟩, ?_⟩
          exact ((((hB.out.setCell (p := ⟨w.heap.size, 0, none⟩) (Nat.le_refl _) _).setCell (p := ⟨w.heap.size, 1, none⟩) (Nat.le_refl _) _).setCell (p := ⟨w.heap.size, 2, none⟩) (Nat.le_refl _) _).setCell (p := ⟨w.heap.size, 3, none⟩) (Nat.le_refl _) _)
        · have ko' : decide (0 < opv) = false := decide_eq_false ko
          clear ARh
          go_wp2_with (first | (go_at_call 41; refine (OPh.out _).mono ?_; clear OPh; rintro e w9 ⟨rfl, hw9⟩; obtain rfl := hw9.symm))
          refine bodyPost_ret (v := .tuple #[.agg #[.int .i64 0, .int .i64 0, .int .i64 0, .int .i64 0], .int .i64 0, .bool false, .int .i64 170]) (by simp [results, Tryz.results25, go_sem, *]) rfl ⟨noMv, 0, false, 170, rfl, ⟨hD.out, fun h => by cases h⟩, ?_⟩
          exact ((((hB.out.setCell (p := ⟨w.heap.size, 0, none⟩) (Nat.le_refl _) _).setCell (p := ⟨w.heap.size, 1, none⟩) (Nat.le_refl _) _).setCell (p := ⟨w.heap.size, 2, none⟩) (Nat.le_refl _) _).setCell (p := ⟨w.heap.size, 3, none⟩) (Nat.le_refl _) _)
      · have k11 : (X1.toList == [111, 112]) = false := by rw [hX1'.out]; exact beq_eq_false_iff_ne.2 h2
        have k11' : ¬ X1.toList = [111, 112] := by rw [hX1'.out]; exact h2
        by_cases ko : 0 < opv
        · have ko' : decide (0 < opv) = true := decide_eq_true ko
          have ARh2 := Mr.hid (ARh.out ko)
          have kw : IntKind.i64.wrap (2 + tk) = 2 + tk := i64x _ (by omega) (by omega)
          have kn : ((n : Int) == 2 + tk) = false := beq_eq_false_iff_ne.2 (by have := hl.out; have := hk.out.2.2 ko; omega)
          have kn' : ¬ (n : Int) = 2 + tk := by have := hl.out; have := hk.out.2.2 ko; omega
          clear ARh
          go_wp2_with (first | (go_at_call 41; refine (OPh.out _).mono ?_; clear OPh; rintro e w9 ⟨rfl, hw9⟩; obtain rfl := hw9.symm) | (go_at_call 33; refine (ARh2.out _).mono ?_; clear ARh2; rintro e w9 ⟨rfl, hw9⟩; obtain rfl := hw9.symm))
          refine bodyPost_ret (v := .tuple #[.agg #[.int .i64 0, .int .i64 0, .int .i64 0, .int .i64 0], .int .i64 0, .bool false, .int .i64 170]) (by simp [results, Tryz.results25, go_sem, *]) rfl ⟨noMv, 0, false, 170, rfl, ⟨hD.out, fun h => by cases h⟩, ?_⟩
          exact ((((hB.out.setCell (p := ⟨w.heap.size, 0, none⟩) (Nat.le_refl _) _).setCell (p := ⟨w.heap.size, 1, none⟩) (Nat.le_refl _) _).setCell (p := ⟨w.heap.size, 2, none⟩) (Nat.le_refl _) _).setCell (p := ⟨w.heap.size, 3, none⟩) (Nat.le_refl _) _)
        · have ko' : decide (0 < opv) = false := decide_eq_false ko
          clear ARh
          go_wp2_with (first | (go_at_call 41; refine (OPh.out _).mono ?_; clear OPh; rintro e w9 ⟨rfl, hw9⟩; obtain rfl := hw9.symm))
          refine bodyPost_ret (v := .tuple #[.agg #[.int .i64 0, .int .i64 0, .int .i64 0, .int .i64 0], .int .i64 0, .bool false, .int .i64 170]) (by simp [results, Tryz.results25, go_sem, *]) rfl ⟨noMv, 0, false, 170, rfl, ⟨hD.out, fun h => by cases h⟩, ?_⟩
          exact ((((hB.out.setCell (p := ⟨w.heap.size, 0, none⟩) (Nat.le_refl _) _).setCell (p := ⟨w.heap.size, 1, none⟩) (Nat.le_refl _) _).setCell (p := ⟨w.heap.size, 2, none⟩) (Nat.le_refl _) _).setCell (p := ⟨w.heap.size, 3, none⟩) (Nat.le_refl _) _)
end Go.Proofs.YtcomelbphdjnnaaGreatDoor.Sc
/-
  SCRIPT: the document's move, of any words.
-/
namespace Go.Proofs.YtcomelbphdjnnaaGreatDoor.Sc
open Go.RowKit Mr
set_option linter.unusedVariables false
set_option linter.unusedSimpArgs false
theorem opA_pos (k : Nat) (hk : k < 21) : 0 < opA k := by
  have := all_below (P := fun k => decide (0 < opA k)) (n := 21) (by decide +kernel) hk
  simpa using this
theorem wd_list (k : Nat) : (⟨(wdA k).data.toList.toArray⟩ : ByteArray) = wdA k := by simp
theorem move_any (ws : List (List UInt8)) (a : Option Addr) (n c : Nat) (w : World) (hW : WsAt w a n ws) (hg : ∀ x ∈ ws, Gw x) (hsz : ∀ x ∈ ws, x.length ≤ 1048576) (hn : n ≤ 1048576) (hcap : n ≤ c) (hne : ws ≠ []) :
    Calls Tryz.prog 25 #[.slice a n c] w (MoA w ws) := by
  rcases ws with _ | ⟨x0, r⟩
  · exact absurd rfl hne
  by_cases h0 : x0 = [42]
  · subst h0
    by_cases hr : r.length = 1
    · obtain ⟨x1, rfl⟩ := List.length_eq_one_iff.1 hr
      exact move_star x1 a n c w hW hg (hsz x1 (by simp)) hcap
    · exact move_star_no r a n c w hW hg hr
  rcases r with _ | ⟨x1, r⟩
  · exact move_one x0 a n c w hW hg h0
  have hnoD : ∀ (h : (x1 = [46] → ¬ r.length ≤ 1) ∧ (x1 = [111, 112] → r.length ≠ 3) ∧ ∀ k, rowN x1 = some k → r.length ≠ (tkA k).toNat), ∀ mv' n' rd, Dm (x0 :: x1 :: r) mv' n' rd 170 := fun h mv' n' rd => Dm.none _ _ _ fun T => mean_no x0 x1 r hg h0 (fun _ _ => h) T _
  by_cases hd : x1 = [46]
  · subst hd
    have OP : ∀ W, Calls Tryz.prog 41 #[.string ⟨([46] : List UInt8).toArray⟩] W fun e w' => e = .returned (.int .i64 (-1)) ∧ w' = W := fun W => refOp_none _ W (rowN_none row_dot)
    by_cases hr : r.length ≤ 1
    · have hm : (x0 :: r).all numLike = true → Mn x0 [46] r (stp (numV x0)) (if r = [] then 1 else numV (r.getD 0 [])) := fun ha => by
        rcases r with _ | ⟨x2, _ | ⟨x3, r⟩⟩
        · exact mn_dot1 x0 hg ha
        · exact mn_dot2 x0 x2 hg ha
        · simp at hr
      have D := fun mv' n' rd => dm_two x0 [46] r hg h0 like_dot _ _ hm mv' n' rd
      refine move_dot x0 [46] r a n c w hW hsz hn hcap h0 (-1) 0 OP (fun h => by omega) ⟨by omega, by omega⟩ ⟨rfl, hr⟩ (fun mv' n' rd h => (D mv' n' rd).1 h) (fun hf => ⟨fun e => ?_, fun x2 e => ⟨fun mv n hq => ?_, fun hq => ?_⟩⟩)
      · have := ((D noMv 0 false).2 hf).2
        rw [if_pos e] at this
        exact this (by omega)
      · subst e
        exact ((D mv n false).2 hf).1 (by simpa using hq)
      · subst e
        have t := ((D noMv 0 false).2 hf).2 (by simpa using hq)
        simpa using t
    · exact move_none x0 [46] r a n c w hW hsz hn hcap h0 (-1) 0 OP (fun h => by omega) ⟨by omega, by omega⟩ ⟨fun _ => hr, fun e => absurd e (by decide), fun h => by omega⟩ (hnoD ⟨fun _ => hr, fun e => absurd e (by decide), fun k hk => by rw [row_dot] at hk; cases hk⟩)
  by_cases ho : x1 = [111, 112]
  · subst ho
    have OP : ∀ W, Calls Tryz.prog 41 #[.string ⟨([111, 112] : List UInt8).toArray⟩] W fun e w' => e = .returned (.int .i64 (-1)) ∧ w' = W := fun W => refOp_none _ W (rowN_none row_op)
    by_cases hr : r.length = 3
    · have hm : (x0 :: r).all numLike = true → Mn x0 [111, 112] r ⟨numV x0, numV (r.getD 0 []), numV (r.getD 1 []), numV (r.getD 2 [])⟩ 1 := fun ha => by
        match r, hr with
        | [x2, x3, x4], _ => exact mn_op x0 x2 x3 x4 hg ha
      have D := fun mv' n' rd => dm_two x0 [111, 112] r hg h0 like_op _ _ hm mv' n' rd
      exact move_op x0 [111, 112] r a n c w hW hsz hn hcap h0 (-1) 0 OP (fun h => by omega) ⟨by omega, by omega⟩ ⟨rfl, hr⟩ (fun mv' n' rd h => (D mv' n' rd).1 h) (fun hf => ((D noMv 0 false).2 hf).2 (by omega))
    · exact move_none x0 [111, 112] r a n c w hW hsz hn hcap h0 (-1) 0 OP (fun h => by omega) ⟨by omega, by omega⟩ ⟨fun e => absurd e (by decide), fun _ => hr, fun h => by omega⟩ (hnoD ⟨fun e => absurd e (by decide), fun _ => hr, fun k hk => by rw [row_op] at hk; cases hk⟩)
  cases hk : rowN x1 with
  | none =>
    have OP : ∀ W, Calls Tryz.prog 41 #[.string ⟨x1.toArray⟩] W fun e w' => e = .returned (.int .i64 (-1)) ∧ w' = W := fun W => refOp_none _ W (rowN_none hk)
    exact move_none x0 x1 r a n c w hW hsz hn hcap h0 (-1) 0 OP (fun h => by omega) ⟨by omega, by omega⟩ ⟨fun e => absurd e hd, fun e => absurd e ho, fun h => by omega⟩ (hnoD ⟨fun e => absurd e hd, fun e => absurd e ho, fun k hk' => by rw [hk] at hk'; cases hk'⟩)
  | some k =>
    obtain ⟨hk21, hwd⟩ := rowN_some hk
    have hx1 : x1 = (wdA k).data.toList := by rw [hwd]
    obtain ⟨l1, l2, l3, l4, l5, l6⟩ := like_wd k hk21
    have OP : ∀ W, Calls Tryz.prog 41 #[.string ⟨x1.toArray⟩] W fun e w' => e = .returned (.int .i64 (opA k)) ∧ w' = W := fun W => by rw [← hwd]; exact refOp_some k W hk21
    have AR : 0 < opA k → ∀ W, Calls Tryz.prog 33 #[.int .i64 (opA k)] W fun e w' => e = .returned (.int .i64 (tkA k)) ∧ w' = W := fun _ W => args_some k W hk21
    by_cases hr : (r.length : Int) = tkA k
    · have hrn : r.length = (tkA k).toNat := by omega
      have hm : (x0 :: r).all numLike = true → Mn x0 x1 r ⟨numV x0, opA k, numV (r.getD 0 []), numV (r.getD 1 [])⟩ 1 := fun ha => by
        rw [hx1] at hg ⊢
        exact mn_call x0 k hk21 r hrn hg ha
      have D := fun mv' n' rd => dm_two x0 x1 r hg h0 (by rw [hx1]; exact l1) _ _ hm mv' n' rd
      exact move_call x0 x1 r a n c w hW hsz hn hcap h0 (opA k) (tkA k) OP AR ⟨l5, l6⟩ ⟨hd, ho, opA_pos k hk21, hr⟩ (fun mv' n' rd h => (D mv' n' rd).1 h) (fun hf => ((D noMv 0 false).2 hf).2 (by omega))
    · exact move_none x0 x1 r a n c w hW hsz hn hcap h0 (opA k) (tkA k) OP AR ⟨l5, l6⟩ ⟨fun e => absurd e hd, fun e => absurd e ho, fun _ => hr⟩ (hnoD ⟨fun e => absurd e hd, fun e => absurd e ho, fun k' hk' => by rw [hk] at hk'; cases hk'; omega⟩)
end Go.Proofs.YtcomelbphdjnnaaGreatDoor.Sc
