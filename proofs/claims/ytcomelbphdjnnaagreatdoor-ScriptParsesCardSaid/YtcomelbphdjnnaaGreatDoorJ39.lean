import Derived.Test.YtcomelbphdjnnaaGreatDoorJ38
import Derived.Deep.RegionHeld3
/-
  SCRIPT: the document's move, 'op'.
-/
namespace Go.Proofs.YtcomelbphdjnnaaGreatDoor.Sc
open Go.RowKit Mr
set_option linter.unusedVariables false
set_option linter.unusedSimpArgs false
set_option maxRecDepth 100000
set_option maxHeartbeats 16000000 in
theorem move_op (x0 x1 : List UInt8) (r : List (List UInt8)) (a : Option Addr) (n c : Nat) (w : World) (hW : WsAt w a n (x0 :: x1 :: r)) (hsz : ∀ x ∈ x0 :: x1 :: r, x.length ≤ 1048576) (hn : n ≤ 1048576) (hcap : n ≤ c) (h0 : x0 ≠ [42])
    (opv tk : Int) (OP : ∀ W, Calls Tryz.prog 41 #[.string ⟨x1.toArray⟩] W fun e w' => e = .returned (.int .i64 opv) ∧ w' = W)
    (AR : 0 < opv → ∀ W, Calls Tryz.prog 33 #[.int .i64 opv] W fun e w' => e = .returned (.int .i64 tk) ∧ w' = W) (htk : 0 ≤ tk ∧ tk ≤ 2)
    (hk : x1 = [111, 112] ∧ r.length = 3)
    (hDm : ∀ mv' n' rd, fltL (x0 :: r) ≠ 0 → Dm (x0 :: x1 :: r) mv' n' rd (fltL (x0 :: r)))
    (hDk : fltL (x0 :: r) = 0 → Dm (x0 :: x1 :: r) ⟨numV x0, numV (r.getD 0 []), numV (r.getD 1 []), numV (r.getD 2 [])⟩ 1 false 0) :
    Calls Tryz.prog 25 #[.slice a n c] w (MoA w (x0 :: x1 :: r)) := by
  replace hk := Mr.hid hk
  have hl : n = r.length + 2 := by have := hW.1; simp only [List.length_cons] at this; omega
  obtain ⟨g, rfl, hgl, hc⟩ := hW.at (by omega)
  have c0 := hc 0 (by omega)
  have c1 := hc 1 (by omega)
  rw [List.getD_cons_zero] at c0
  rw [List.getD_cons_succ, List.getD_cons_zero] at c1
  obtain ⟨si, hsi, hs0, hs1, hs2⟩ := info_s
  have hWO := WsO.of hW
  have OPh := Mr.hid OP
  have ARh := Mr.hid AR
  have kx0 : ¬ (⟨x0.toArray⟩ : ByteArray).toList = [42] := by rw [toList_mk]; exact h0
  have kx0' : ((⟨x0.toArray⟩ : ByteArray).toList == [42]) = false := beq_eq_false_iff_ne.2 kx0
  have FLT : Hid (∀ W v av cv, v = .slice av (r.length + 1) cv → Mt w W x0 r v → Calls Tryz.prog 38 #[v] W fun e w' => e = .returned (.int .i64 (fltL (x0 :: r))) ∧ w' = W) := fun W v av cv e h => by
    subst e
    exact faults_any (x0 :: r) av (r.length + 1) cv W (WsO.of (WsAt.of h.row)) (by omega) (fun x hx => hsz x (by rcases List.mem_cons.1 hx with e | e <;> simp [e]))
  have NB : Hid (∀ x ∈ x0 :: r, ∀ W, Calls Tryz.prog 39 #[.string ⟨x.toArray⟩] W fun e w' => ∃ y : Int, e = .returned (.tuple #[.int .i64 y, .bool (numOk x).isSome]) ∧ ((numOk x).isSome = true → y = numV x) ∧ w' = W) := fun x hx W => by have := rNumber_any ⟨x.toArray⟩ W (by have := hsz x (by rcases List.mem_cons.1 hx with e | e <;> simp [e]); simp [ByteArray.size]; omega); simpa using this
  have hrow0 : ∀ (W : World) (t : TypeId), w.heap.size + 1 ≤ W.heap.size → Has (W.alloc (.cells #[.string ⟨x0.toArray⟩] 9)) (fun k => w.heap.size + 1 ≤ k) 9 1 (.slice (some ⟨W.heap.size, 0, none⟩) 1 1) 1 (strs [x0]) := fun W t h => has_new W _ 9 1 1 #[.string ⟨x0.toArray⟩] h (by decide) rfl
  have hsrc : Hid (∀ j u, (strs r)[j]? = some u → w.cell? ⟨g, 2 + j, none⟩ = some u) := fun j u hu => by
    simp only [strs, List.getElem?_map] at hu
    cases hx : r[j]? with
    | none => rw [hx] at hu; cases hu
    | some x =>
      rw [hx] at hu
      cases hu
      have hj := (List.getElem?_eq_some_iff.1 hx).1
      have := hc (2 + j) (by omega)
      rw [this]
      congr 3
      rw [show 2 + j = j + 1 + 1 by omega, List.getD_cons_succ, List.getD_cons_succ, List.getD_eq_getElem?_getD, hx]; rfl
  have kl : ¬ (n : Int) < 2 := by omega
  have kl' : decide ((n : Int) < 2) = false := decide_eq_false kl
  have kc : (2 : Int) ≤ (c : Int) := by omega
  have kc2 : (2 : Int) ≤ (n : Int) := by omega
  have kc3 : 2 ≤ n := by omega
  have ki0 : (0 : Int) < (n : Int) := by omega
  have ki1 : (1 : Int) < (n : Int) := by omega
  replace hl := Mr.hid hl
  generalize hX0 : (⟨x0.toArray⟩ : ByteArray) = X0 at *
  generalize hX1 : (⟨x1.toArray⟩ : ByteArray) = X1 at *
  have hX1' : X1.toList = x1 := by rw [← hX1, toList_mk]
  replace hX1' := Mr.hid hX1'
  replace hWO := Mr.hid hWO
  replace hrow0 := Mr.hid hrow0
  clear hW hc OP AR
  go_enter Tryz.func25, Tryz.ntmps25
  go_upto_region 9 with fail
  go_cut [8] (fun s8 wq => ∃ av cv, s8 = .slice av (r.length + 1) cv ∧ Mt w wq x0 r s8)
  case first =>
    have hlt : w.heap.size + 1 ≤ (w.alloc (.cells #[.int .i64 0, .int .i64 0, .int .i64 0, .int .i64 0] 42)).heap.size := by simp
    have hr0 := hrow0.out (w.alloc (.cells #[.int .i64 0, .int .i64 0, .int .i64 0, .int .i64 0] 42)) 0 hlt
    have hbx : ((w.alloc (.cells #[.int .i64 0, .int .i64 0, .int .i64 0, .int .i64 0] 42)).alloc (.cells #[.string X0] 9)).heap[w.heap.size]? = some (.cells #[.int .i64 0, .int .i64 0, .int .i64 0, .int .i64 0] 42 (0, 0)) := (Lib.alloc_old _ _ _ (by simp)).trans (new_at _ _ _ rfl)
    have hbl : Below w.heap.size w ((w.alloc (.cells #[.int .i64 0, .int .i64 0, .int .i64 0, .int .i64 0] 42)).alloc (.cells #[.string X0] 9)) := ((Below.refl _ _).alloc (Nat.le_refl _) _).alloc (by simp) _
    have hsz2 : ((w.alloc (.cells #[.int .i64 0, .int .i64 0, .int .i64 0, .int .i64 0] 42)).alloc (.cells #[.string X0] 9)).heap.size = w.heap.size + 2 := by simp
    have hs1' : (w.alloc (.cells #[.int .i64 0, .int .i64 0, .int .i64 0, .int .i64 0] 42)).heap.size = w.heap.size + 1 := by simp
    rw [hs1'] at hr0
    generalize (w.alloc (.cells #[.int .i64 0, .int .i64 0, .int .i64 0, .int .i64 0] 42)).alloc (.cells #[.string X0] 9) = w2 at *
    replace hr0 := Mr.hid hr0
    replace hbx := Mr.hid hbx
    replace hbl := Mr.hid hbl
    replace hsz2 := Mr.hid hsz2
    clear hlt hs1' hrow0 c0 c1
    by_cases hr : r = []
    · subst hr
      have hn2 : n = 2 := by have := hl.out; simpa using this
      subst hn2
      by_cases hc2 : 2 < c
      · have hcI : (2 : Int) < (c : Int) := by omega
        go_wp2_with (at_builtin; refine wpList_append_zero rfl _ _ 58 rfl 9 si Tryz.underlying58 hsi _ 1 1 (Nat.le_refl _) rfl _ _ rfl ?_)
        go_meet
        case rel => exact ⟨_, _, rfl, hbx.out, hr0.out, hbl.out⟩
      · obtain rfl : c = 2 := by omega
        go_wp2_with (at_builtin; refine wpList_append_zero rfl _ _ 58 rfl 9 si Tryz.underlying58 hsi _ 1 1 (Nat.le_refl _) rfl _ _ rfl ?_)
        go_meet
        case rel => exact ⟨_, _, rfl, hbx.out, hr0.out, hbl.out⟩
    · have hr1 : 0 < r.length := List.length_pos_iff.2 hr
      have hcI : (2 : Int) < (c : Int) := by have := hl.out; omega
      have hc2 : 2 < c := by omega
      have hsr : Hid (∀ j u, (strs r)[j]? = some u → w2.cell? ((⟨g, 2, none⟩ : Addr).add j) = some u) := fun j u hu => by
        rw [add1]
        exact (hbl.out.cell (p := ⟨g, 2 + j, none⟩) hgl).trans (hsrc.out j u hu)
      have hlr : Hid (n - 2 = r.length) := by show _ = _; have := hl.out; omega
      have hle : Hid (r.length ≤ 1048576) := by show _ ≤ _; have := hl.out; omega
      clear hsrc
      go_wp2_with (at_builtin; refine wpList_append_has _ rfl _ _ 58 rfl (fun k => w.heap.size + 1 ≤ k) 9 si (.string ⟨#[]⟩) 1 16 Tryz.underlying58 hsi hs0 hs1 hs2 rfl _ _ _ rfl hr0.out ⟨g, 2, none⟩ (n - 2) (c - 2) (strs r) rfl (by rw [hlr.out]; simp [strs]) hsr.out (strs_one r) (by have := hlr.out; omega) (by have := hlr.out; have := hle.out; unfold maxLen; omega) (by have := hlr.out; have := hle.out; omega) (by have := hsz2.out; omega) ?_; intro g2 cap2 w3 hh3 hgr hgg)
      have hB3 : Below (w.heap.size + 1) w2 w3 := (Below.refl _ _).grown hgr (by have := hsz2.out; omega) (fun k hk => (hr0.out.lt k hk).1)
      have e1 : 1 + (n - 2) = r.length + 1 := by have := hlr.out; omega
      rw [e1] at hh3 ⊢
      have hMt : Mt w w3 x0 r (.slice (some ⟨g2, 0, none⟩) (r.length + 1) cap2) := ⟨(hB3.block _ (by omega)).trans hbx.out, hh3, hbl.out.trans (hB3.mono (by omega))⟩
      replace hMt := Mr.hid hMt
      clear hh3 hgr hgg hB3 e1
      go_wp2
      go_meet
      case rel => exact ⟨_, _, rfl, hMt.out⟩
  case rest =>
    obtain ⟨av, cv, rfl, hMt⟩ := hcut
    generalize wc = w5 at *
    have c1' : w5.cell? ⟨g, 1, none⟩ = some (.string X1) := (hMt.bel.cell (p := ⟨g, 1, none⟩) hgl).trans c1
    have hg5 : g < w5.heap.size := Nat.lt_of_lt_of_le hgl hMt.bel.size
    have F5 := Mr.hid (FLT.out w5 _ av cv rfl hMt)
    have b5 := hMt.box
    replace hMt := Mr.hid hMt
    clear c0 c1 hrow0 hsrc FLT kl kl' kx0 kx0'
    have k46 : (X1.toList == [46]) = false := by rw [hX1'.out, hk.out.1]; rfl
    have k46' : ¬ X1.toList = [46] := by rw [hX1'.out, hk.out.1]; decide
    have k11 : (X1.toList == [111, 112]) = true := by rw [hX1'.out, hk.out.1]; rfl
    have k11' : X1.toList = [111, 112] := by rw [hX1'.out, hk.out.1]
    have k5 : n = 5 := by have := hl.out; have := hk.out.2; omega
    have k5' : ((n : Int) == 5) = true := by rw [k5]; rfl
    have k5'' : (n : Int) = 5 := by rw [k5]; rfl
    replace k5 := Mr.hid k5
    by_cases hf : fltL (x0 :: r) = 0
    · rw [hf] at F5
      have N2 : Hid (∀ i x, (x0 :: r)[i]? = some x → ∀ W, Calls Tryz.prog 39 #[.string ⟨x.toArray⟩] W fun e w' => e = .returned (.tuple #[.int .i64 (numV x), .bool true]) ∧ w' = W) := fun i x hx W => (NB.out x (List.mem_of_getElem? hx) W).mono fun e w' ⟨y, h1, h2, h3⟩ => by
        have hk := flt_ok hf x (List.mem_of_getElem? hx)
        rw [hk] at h1
        rw [h2 hk] at h1
        exact ⟨h1, h3⟩
      obtain ⟨gt, capt, hvt, -, hgt, -, -⟩ := hMt.out.row.there (by omega)
      cases hvt
      have hct : Hid (∀ i x, (x0 :: r)[i]? = some x → w5.cell? ⟨gt, i, none⟩ = some (.string ⟨x.toArray⟩)) := fun i x hx => hMt.out.row.cells (g := gt) rfl i _ (by simp only [strs, List.getElem?_map, hx]; rfl)
      obtain ⟨ii, hii, hz0, hz1, hz2⟩ := info_i
      obtain ⟨m1, hm1⟩ : ∃ m1, m1 = r.length + 1 := ⟨_, rfl⟩
      have hml : m1 = (x0 :: r).length := by rw [hm1]; simp
      rw [← hm1] at F5 ⊢
      have hmb : m1 ≤ 1048577 := by have := hl.out; omega
      replace hm1 := Mr.hid hm1
      replace hml := Mr.hid hml
      replace hf := Mr.hid hf
      clear NB
      go_upto_region 20 with (first | (go_at_call 41; refine (OPh.out _).mono ?_; clear OPh; rintro e w9 ⟨rfl, hw9⟩; obtain rfl := hw9.symm) | (go_at_call 38; refine F5.out.mono ?_; clear F5; rintro e w9 ⟨rfl, hw9⟩; obtain rfl := hw9.symm))
      skip
      go_loopg [11, 92] m1 (fun gk s11 s92 wq => ∃ (u : Value) (i : Nat), s11 = u ∧ s92 = .int .i64 (i : Int) ∧ i + gk = m1 ∧ Has wq (fun k => w5.heap.size ≤ k) 3 1 u i (ints (((x0 :: r).map numV).take i)) ∧ Below w5.heap.size w5 wq)
      case atStart => exact ⟨_, 0, rfl, rfl, by omega, Has.nil _ _ _ _, Below.refl _ _⟩
      case round =>
        obtain ⟨u, i, rfl, rfl, hi, hu, hBq⟩ := hrel
        obtain ⟨au, cu, rfl, hcu⟩ := hu.form
        by_cases hlt : i < m1
        · have hil : i < (x0 :: r).length := by have := hml.out; omega
          obtain ⟨x, hx⟩ : ∃ x, (x0 :: r)[i]? = some x := ⟨_, List.getElem?_eq_getElem hil⟩
          have hxn : ((x0 :: r).map numV)[i]? = some (numV x) := by rw [List.getElem?_map, hx]; rfl
          have ct : wr.cell? ⟨gt, i, none⟩ = some (.string ⟨x.toArray⟩) := (hBq.cell (p := ⟨gt, i, none⟩) hgt).trans (hct.out i x hx)
          have hgq : gt < wr.heap.size := Nat.lt_of_lt_of_le hgt hBq.size
          have N3 := Mr.hid (N2.out i x hx)
          have htk' := Mr.hid (take_succ_of hxn)
          have hw : IntKind.i64.wrap ((i : Int) + 1) = (i : Int) + 1 := i64x _ (by omega) (by omega)
          have hlI : (i : Int) < (m1 : Int) := by omega
          have el : decide ((i : Int) < (m1 : Int)) = true := by simpa using hlI
          have hi' := Mr.hid hi
          replace hu := Mr.hid hu
          replace hBq := Mr.hid hBq
          generalize (⟨x.toArray⟩ : ByteArray) = X at *
          generalize numV x = nv at *
          clear hx hxn hi hct N2 hil
          go_upto_region 23 with (go_at_call 39; refine (N3.out _).mono ?_; clear N3; rintro e w9 ⟨rfl, hw9⟩; obtain rfl := hw9.symm)
          go_wp2_with (at_builtin; refine wpList_append_has _ rfl _ _ 87 rfl (fun k => w5.heap.size ≤ k) 3 ii (.int .i64 0) 1 8 Tryz.underlying87 hii hz0 hz1 hz2 rfl _ _ _ rfl (hu.out.alloc _) ⟨wr.heap.size, 0, none⟩ 1 1 [.int .i64 nv] rfl rfl (newsOne _ _ _ rfl) (by intro u hu; simp at hu; subst hu; rfl) (by decide) (by unfold maxLen; omega) (by omega) (by have := hBq.out.size; simp; omega) ?_; intro g2 cap2 w3 hh3 hgr hgg)
          have hB3 : Hid (Below w5.heap.size w5 w3) := (hBq.out.alloc hBq.out.size _).grown hgr (by have := hBq.out.size; simp; omega) (fun k hk => (hu.out.lt k hk).1)
          have hh4 : Hid (Has w3 (fun k => w5.heap.size ≤ k) 3 1 (.slice (some ⟨g2, 0, none⟩) (i + 1) cap2) (i + 1) (ints (((x0 :: r).map numV).take (i + 1)))) := by
            show Has _ _ _ _ _ _ _
            have h2 : ints (((x0 :: r).map numV).take (i + 1)) = ints (((x0 :: r).map numV).take i) ++ [.int .i64 nv] := by rw [htk'.out]; simp [ints]
            rw [h2]
            exact hh3
          clear hh3 hgr hgg hu hBq ct hgq
          go_wp2
          go_roundg (gk - 1)
          case measure => have := hi'.out; omega
          case rel => exact ⟨_, i + 1, rfl, by simp, by have := hi'.out; omega, hh4.out, hB3.out⟩
        · obtain rfl : i = m1 := by omega
          have hte : ((x0 :: r).map numV).take i = (x0 :: r).map numV := List.take_of_length_le (by have := hml.out; rw [List.length_map]; omega)
          rw [hte] at hu
          have hpos : 0 < i := by have := hm1.out; omega
          obtain ⟨gu, capu, hvu, -, hgu, hcapu, -⟩ := hu.there hpos
          cases hvu
          have hcu' : Hid (∀ j v, ((x0 :: r).map numV)[j]? = some v → wr.cell? ⟨gu, j, none⟩ = some (.int .i64 v)) := fun j v hv => hu.cells (g := gu) rfl j _ (by simp only [ints, List.getElem?_map] at hv ⊢; rw [hv]; rfl)
          have BB : Below w.heap.size w wr := hMt.out.bel.trans (hBq.mono hMt.out.bel.size)
          have bx : wr.heap[w.heap.size]? = some (.cells #[.int .i64 0, .int .i64 0, .int .i64 0, .int .i64 0] 42 (0, 0)) := (hBq.block _ hMt.out.lt).trans hMt.out.box
          have el : decide ((i : Int) < (i : Int)) = false := by simp
          have el2 : ¬ (i : Int) < (i : Int) := by omega
          have y0 := hcu'.out 0 _ rfl
          have c1q : wr.cell? ⟨g, 1, none⟩ = some (.string X1) := (hBq.cell (p := ⟨g, 1, none⟩) hg5).trans c1'
          have hgq : g < wr.heap.size := Nat.lt_of_lt_of_le hg5 hBq.size
          have hiI : (0 : Int) < (i : Int) := by omega
          have hbq := Mr.hid hBq
          clear hi hlt hte hct N2 hBq c1' hg5
          have q0 := cell_blk bx 0
          have q1 := cell_blk bx 1
          have q2 := cell_blk bx 2
          have q3 := cell_blk bx 3
          have hfz : ∀ k, wr.frozen? ⟨w.heap.size, k, none⟩ = false := fun k => by simp [World.frozen?, bx]
          have lb := (Array.getElem?_eq_some_iff.1 bx).1
          have hDk' := hDk hf.out
          have hBB := Mr.hid BB
          replace hDk' := Mr.hid hDk'
          obtain ⟨x2, x3, x4, rfl⟩ : ∃ x2 x3 x4, r = [x2, x3, x4] := by
            match r, hk.out.2 with
            | [x2, x3, x4], _ => exact ⟨x2, x3, x4, rfl⟩
          have y1 := hcu'.out 1 _ rfl
          have y2 := hcu'.out 2 _ rfl
          have y3 := hcu'.out 3 _ rfl
          have hi4 : i = 4 := by have := hm1.out; simpa using this
          subst hi4
          have hgul : w5.heap.size ≤ gu := (hu.lt gu rfl).1
          have hgne : w.heap.size ≠ gu := by have := hMt.out.lt; omega
          have hgne' : gu ≠ w.heap.size := fun e => hgne e.symm
          have bx6 : (wr.alloc (.cells #[.int .i64 (numV x0), .int .i64 0, .int .i64 0, .int .i64 0] 42)).heap[w.heap.size]? = some (.cells #[.int .i64 0, .int .i64 0, .int .i64 0, .int .i64 0] 42 (0, 0)) := (Lib.alloc_old wr _ _ lb).trans bx
          simp only [List.getD_cons_zero, List.getD_cons_succ] at hDk'
          clear bx hu hcu' BB hDm hDk hMt hbq hWO b5
          generalize numV x0 = v0 at *
          generalize numV x2 = v2 at *
          generalize numV x3 = v3 at *
          generalize numV x4 = v4 at *
          go_upto_region 32 with fail
          have hB6 : Hid (Below w.heap.size w (wr.alloc (.cells #[.int .i64 v0, .int .i64 0, .int .i64 0, .int .i64 0] 42))) := hBB.out.alloc hBB.out.size _
          have z0 : (wr.alloc (.cells #[.int .i64 v0, .int .i64 0, .int .i64 0, .int .i64 0] 42)).cell? ⟨gu, 0, none⟩ = some (.int .i64 v0) := ((Below.refl wr.heap.size wr).alloc (Nat.le_refl _) _ |>.cell (p := ⟨gu, 0, none⟩) hgu).trans y0
          have z1 : (wr.alloc (.cells #[.int .i64 v0, .int .i64 0, .int .i64 0, .int .i64 0] 42)).cell? ⟨gu, 1, none⟩ = some (.int .i64 v2) := ((Below.refl wr.heap.size wr).alloc (Nat.le_refl _) _ |>.cell (p := ⟨gu, 1, none⟩) hgu).trans y1
          have z2 : (wr.alloc (.cells #[.int .i64 v0, .int .i64 0, .int .i64 0, .int .i64 0] 42)).cell? ⟨gu, 2, none⟩ = some (.int .i64 v3) := ((Below.refl wr.heap.size wr).alloc (Nat.le_refl _) _ |>.cell (p := ⟨gu, 2, none⟩) hgu).trans y2
          have z3 : (wr.alloc (.cells #[.int .i64 v0, .int .i64 0, .int .i64 0, .int .i64 0] 42)).cell? ⟨gu, 3, none⟩ = some (.int .i64 v4) := ((Below.refl wr.heap.size wr).alloc (Nat.le_refl _) _ |>.cell (p := ⟨gu, 3, none⟩) hgu).trans y3
          have hgu6 : gu < (wr.alloc (.cells #[.int .i64 v0, .int .i64 0, .int .i64 0, .int .i64 0] 42)).heap.size := by simp; omega
          have lb6 : w.heap.size < (wr.alloc (.cells #[.int .i64 v0, .int .i64 0, .int .i64 0, .int .i64 0] 42)).heap.size := by simp; omega
          clear q0 q1 q2 q3 hfz lb y0 y1 y2 y3 hgu hBB c1q hgq
          generalize wr.alloc (.cells #[.int .i64 v0, .int .i64 0, .int .i64 0, .int .i64 0] 42) = w6 at *
          have q0 := cell_blk bx6 0
          have q1 := cell_blk bx6 1
          have q2 := cell_blk bx6 2
          have q3 := cell_blk bx6 3
          have hfz : ∀ k, w6.frozen? ⟨w.heap.size, k, none⟩ = false := fun k => by simp [World.frozen?, bx6]
          clear bx6 hgul k46 k46' k11 k11'
          refine wp_region_held_drew (S := (fun W => W.cell? ⟨gu, 0, none⟩ = some (.int .i64 v0) ∧ W.cell? ⟨gu, 1, none⟩ = some (.int .i64 v2) ∧ W.cell? ⟨gu, 2, none⟩ = some (.int .i64 v3) ∧ W.cell? ⟨gu, 3, none⟩ = some (.int .i64 v4))) (by kernel_rfl) ?_ (fun hHeld => ?_)
          · (try dsimp only)
            exact ⟨z0, z1, z2, z3⟩
          refine wpAnyH_take (i := 0) (oi := (⟨_, _, _, _, _, _⟩ : Oper)) (v := ?_) rfl (by kernel_rfl) (by kernel_rfl) (by kernel_rfl) (fun _ _ _ h => h) (Or.inl ⟨by rfl, ?_⟩) (by assumption) ?_
          rotate_left
          · intro w9 hSw
            (try dsimp only at hSw)
            go_simp
            all_goals (with_reducible rfl)
          try simp only [Act.put, List.setIfInBounds_toArray, List.set_cons_zero, List.set_cons_succ]
          refine wpAnyH_take (i := 1) (oi := (⟨_, _, _, _, _, _⟩ : Oper)) (v := ?_) rfl (by kernel_rfl) (by kernel_rfl) (by kernel_rfl) (fun _ _ _ h => h) (Or.inl ⟨by rfl, ?_⟩) (by assumption) ?_
          rotate_left
          · intro w9 hSw
            (try dsimp only at hSw)
            go_simp
            all_goals (with_reducible rfl)
          try simp only [Act.put, List.setIfInBounds_toArray, List.set_cons_zero, List.set_cons_succ]
          refine wpAnyH_take (i := 2) (oi := (⟨_, _, _, _, _, _⟩ : Oper)) (v := ?_) rfl (by kernel_rfl) (by kernel_rfl) (by kernel_rfl) (fun _ _ _ h => h) (Or.inl ⟨by rfl, ?_⟩) (by assumption) ?_
          rotate_left
          · intro w9 hSw
            (try dsimp only at hSw)
            go_simp
            all_goals (with_reducible rfl)
          try simp only [Act.put, List.setIfInBounds_toArray, List.set_cons_zero, List.set_cons_succ]
          refine wpAnyH_take (i := 3) (oi := (⟨_, _, _, _, _, _⟩ : Oper)) (v := ?_) rfl (by kernel_rfl) (by kernel_rfl) (by kernel_rfl) (fun _ _ _ h => h) (Or.inl ⟨by rfl, ?_⟩) (by assumption) ?_
          rotate_left
          · intro w9 hSw
            (try dsimp only at hSw)
            go_simp
            all_goals (with_reducible rfl)
          try simp only [Act.put, List.setIfInBounds_toArray, List.set_cons_zero, List.set_cons_succ]
          refine wpAnyH_take (i := 4) (oi := (⟨_, _, _, _, _, _⟩ : Oper)) (v := ?_) rfl (by kernel_rfl) (by kernel_rfl) (by kernel_rfl) (fun _ _ _ h => h) (Or.inl ⟨by rfl, ?_⟩) (by assumption) ?_
          rotate_left
          · intro w9 hSw
            (try dsimp only at hSw)
            go_simp
            all_goals (with_reducible rfl)
          try simp only [Act.put, List.setIfInBounds_toArray, List.set_cons_zero, List.set_cons_succ]
          refine wpAnyH_take (i := 5) (oi := (⟨_, _, _, _, _, _⟩ : Oper)) (v := ?_) rfl (by kernel_rfl) (by kernel_rfl) (by kernel_rfl) (fun _ _ _ h => h) (Or.inl ⟨by rfl, ?_⟩) (by assumption) ?_
          rotate_left
          · intro w9 hSw
            (try dsimp only at hSw)
            go_simp
            all_goals (with_reducible rfl)
          try simp only [Act.put, List.setIfInBounds_toArray, List.set_cons_zero, List.set_cons_succ]
          refine wpAnyH_take (i := 6) (oi := (⟨_, _, _, _, _, _⟩ : Oper)) (v := ?_) rfl (by kernel_rfl) (by kernel_rfl) (by kernel_rfl) (fun _ _ _ h => h) (Or.inl ⟨by rfl, ?_⟩) (by assumption) ?_
          rotate_left
          · intro w9 hSw
            (try dsimp only at hSw)
            go_simp
            all_goals (with_reducible rfl)
          try simp only [Act.put, List.setIfInBounds_toArray, List.set_cons_zero, List.set_cons_succ]
          refine wpAnyH_take (i := 7) (oi := (⟨_, _, _, _, _, _⟩ : Oper)) (v := ?_) rfl (by kernel_rfl) (by kernel_rfl) (by kernel_rfl) (fun _ _ _ h => h) (Or.inl ⟨by rfl, ?_⟩) (by assumption) ?_
          rotate_left
          · intro w9 hSw
            (try dsimp only at hSw)
            go_simp
            all_goals (with_reducible rfl)
          try simp only [Act.put, List.setIfInBounds_toArray, List.set_cons_zero, List.set_cons_succ]
          refine wpAnyH_take (i := 8) (oi := (⟨_, _, _, _, _, _⟩ : Oper)) (v := ?_) rfl (by kernel_rfl) (by kernel_rfl) (by kernel_rfl) (fun _ _ _ h => h) (Or.inl ⟨by rfl, ?_⟩) (by assumption) ?_
          rotate_left
          · intro w9 hSw
            (try dsimp only at hSw)
            go_simp
            all_goals (with_reducible rfl)
          try simp only [Act.put, List.setIfInBounds_toArray, List.set_cons_zero, List.set_cons_succ]
          refine wpAnyH_take (i := 9) (oi := (⟨_, _, _, _, _, _⟩ : Oper)) (v := ?_) rfl (by kernel_rfl) (by kernel_rfl) (by kernel_rfl) (fun _ _ _ h => h) (Or.inl ⟨by rfl, ?_⟩) (by assumption) ?_
          rotate_left
          · intro w9 hSw
            (try dsimp only at hSw)
            go_simp
            all_goals (with_reducible rfl)
          try simp only [Act.put, List.setIfInBounds_toArray, List.set_cons_zero, List.set_cons_succ]
          refine wpAnyH_take (i := 10) (oi := (⟨_, _, _, _, _, _⟩ : Oper)) (v := ?_) rfl (by kernel_rfl) (by kernel_rfl) (by kernel_rfl) (fun _ _ _ h => h) (Or.inl ⟨by rfl, ?_⟩) (by assumption) ?_
          rotate_left
          · intro w9 hSw
            (try dsimp only at hSw)
            go_simp
            all_goals (with_reducible rfl)
          try simp only [Act.put, List.setIfInBounds_toArray, List.set_cons_zero, List.set_cons_succ]
          refine wpAnyH_take (i := 11) (oi := (⟨_, _, _, _, _, _⟩ : Oper)) (v := ?_) rfl (by kernel_rfl) (by kernel_rfl) (by kernel_rfl) (fun _ _ _ h => h) (Or.inl ⟨by rfl, ?_⟩) (by assumption) ?_
          rotate_left
          · intro w9 hSw
            (try dsimp only at hSw)
            go_simp
            all_goals (with_reducible rfl)
          try simp only [Act.put, List.setIfInBounds_toArray, List.set_cons_zero, List.set_cons_succ]
          refine wpAnyH_take (i := 12) (oi := (⟨_, _, _, _, _, _⟩ : Oper)) (v := ?_) rfl (by kernel_rfl) (by kernel_rfl) (by kernel_rfl) (fun _ _ _ h => h) (Or.inl ⟨by rfl, ?_⟩) (by assumption) ?_
          rotate_left
          · intro w9 hSw
            (try dsimp only at hSw)
            go_simp
            all_goals (with_reducible rfl)
          try simp only [Act.put, List.setIfInBounds_toArray, List.set_cons_zero, List.set_cons_succ]
          refine wpAnyH_ready (rs := [13]) (by kernel_rfl) (by simp) ?_
          refine AllReadyH.cons (o := (⟨_, _, _, _, _, _⟩ : Oper)) rfl (fun K hK => ?_) (AllReadyH.nil)
          go_simp
          refine hK.out _ _ ?_ (fun hHeld9 => ?_)
          · (try dsimp only)
            simp [*, go_sem]
          clear hK K hHeld
          have hHeld := hHeld9
          clear hHeld9
          try simp only [Act.put, List.setIfInBounds_toArray, List.set_cons_zero, List.set_cons_succ]
          refine wpAnyH_take (i := 14) (oi := (⟨_, _, _, _, _, _⟩ : Oper)) (v := ?_) rfl (by kernel_rfl) (by kernel_rfl) (by kernel_rfl) (fun _ _ _ h => h) (Or.inl ⟨by rfl, ?_⟩) (by assumption) ?_
          rotate_left
          · intro w9 hSw
            (try dsimp only at hSw)
            go_simp
            all_goals (with_reducible rfl)
          try simp only [Act.put, List.setIfInBounds_toArray, List.set_cons_zero, List.set_cons_succ]
          refine wpAnyH_take (i := 15) (oi := (⟨_, _, _, _, _, _⟩ : Oper)) (v := ?_) rfl (by kernel_rfl) (by kernel_rfl) (by kernel_rfl) (fun _ _ _ h => h) (Or.inl ⟨by rfl, ?_⟩) (by assumption) ?_
          rotate_left
          · intro w9 hSw
            (try dsimp only at hSw)
            go_simp
            all_goals (with_reducible rfl)
          try simp only [Act.put, List.setIfInBounds_toArray, List.set_cons_zero, List.set_cons_succ]
          refine wpAnyH_take (i := 16) (oi := (⟨_, _, _, _, _, _⟩ : Oper)) (v := ?_) rfl (by kernel_rfl) (by kernel_rfl) (by kernel_rfl) (fun _ _ _ h => h) (Or.inl ⟨by rfl, ?_⟩) (by assumption) ?_
          rotate_left
          · intro w9 hSw
            (try dsimp only at hSw)
            go_simp
            all_goals (with_reducible rfl)
          try simp only [Act.put, List.setIfInBounds_toArray, List.set_cons_zero, List.set_cons_succ]
          refine wpAnyH_done (by kernel_rfl) ?_ _
          clear hHeld
          have hB7 : Hid (Below w.heap.size w ((((w6.setCell ⟨w.heap.size, 0, none⟩ (.int .i64 v0)).setCell ⟨w.heap.size, 1, none⟩ (.int .i64 v2)).setCell ⟨w.heap.size, 2, none⟩ (.int .i64 v3)).setCell ⟨w.heap.size, 3, none⟩ (.int .i64 v4)).drew) := ((((hB6.out.setCell (p := ⟨w.heap.size, 0, none⟩) (Nat.le_refl _) (.int .i64 v0)).setCell (p := ⟨w.heap.size, 1, none⟩) (Nat.le_refl _) (.int .i64 v2)).setCell (p := ⟨w.heap.size, 2, none⟩) (Nat.le_refl _) (.int .i64 v3)).setCell (p := ⟨w.heap.size, 3, none⟩) (Nat.le_refl _) (.int .i64 v4)).drew
          clear hB6 z0 z1 z2 z3 hgu6
          go_wp2
          refine bodyPost_ret (v := .tuple #[.agg #[.int .i64 v0, .int .i64 v2, .int .i64 v3, .int .i64 v4], .int .i64 1, .bool false, .int .i64 0]) (by simp [results, Tryz.results25, go_sem, *]) rfl ⟨⟨v0, v2, v3, v4⟩, 1, false, 0, rfl, ⟨?_, fun h => by cases h⟩, hB7.out⟩
          simpa using hDk'.out
    · have hD := Mr.hid (hDm noMv 0 false hf)
      generalize hfe : fltL (x0 :: r) = f at *
      have hne : (f != 0) = true := bne_iff_ne.2 hf
      have hne2 : ¬ f = 0 := hf
      have q0 := cell_blk b5 0
      have q1 := cell_blk b5 1
      have q2 := cell_blk b5 2
      have q3 := cell_blk b5 3
      have hfz : ∀ k, w5.frozen? ⟨w.heap.size, k, none⟩ = false := fun k => by simp [World.frozen?, b5]
      have lb := (Array.getElem?_eq_some_iff.1 b5).1
      have hB := Mr.hid hMt.out.bel
      clear hMt b5 hfe NB
      go_wp2_with (first | (go_at_call 41; refine (OPh.out _).mono ?_; clear OPh; rintro e w9 ⟨rfl, hw9⟩; obtain rfl := hw9.symm) | (go_at_call 38; refine F5.out.mono ?_; clear F5; rintro e w9 ⟨rfl, hw9⟩; obtain rfl := hw9.symm))
      refine bodyPost_ret (v := .tuple #[.agg #[.int .i64 0, .int .i64 0, .int .i64 0, .int .i64 0], .int .i64 0, .bool false, .int .i64 f]) (by simp [results, Tryz.results25, go_sem, *]) rfl ⟨noMv, 0, false, f, rfl, ⟨hD.out, fun h => by cases h⟩, ?_⟩
      exact ((((hB.out.setCell (p := ⟨w.heap.size, 0, none⟩) (Nat.le_refl _) _).setCell (p := ⟨w.heap.size, 1, none⟩) (Nat.le_refl _) _).setCell (p := ⟨w.heap.size, 2, none⟩) (Nat.le_refl _) _).setCell (p := ⟨w.heap.size, 3, none⟩) (Nat.le_refl _) _)
end Go.Proofs.YtcomelbphdjnnaaGreatDoor.Sc
/-
  SCRIPT: the document's move, an op's word.
-/
namespace Go.Proofs.YtcomelbphdjnnaaGreatDoor.Sc
open Go.RowKit Mr
set_option linter.unusedVariables false
set_option linter.unusedSimpArgs false
set_option maxRecDepth 100000
set_option maxHeartbeats 16000000 in
theorem move_call (x0 x1 : List UInt8) (r : List (List UInt8)) (a : Option Addr) (n c : Nat) (w : World) (hW : WsAt w a n (x0 :: x1 :: r)) (hsz : ∀ x ∈ x0 :: x1 :: r, x.length ≤ 1048576) (hn : n ≤ 1048576) (hcap : n ≤ c) (h0 : x0 ≠ [42])
    (opv tk : Int) (OP : ∀ W, Calls Tryz.prog 41 #[.string ⟨x1.toArray⟩] W fun e w' => e = .returned (.int .i64 opv) ∧ w' = W)
    (AR : 0 < opv → ∀ W, Calls Tryz.prog 33 #[.int .i64 opv] W fun e w' => e = .returned (.int .i64 tk) ∧ w' = W) (htk : 0 ≤ tk ∧ tk ≤ 2)
    (hk : x1 ≠ [46] ∧ x1 ≠ [111, 112] ∧ 0 < opv ∧ (r.length : Int) = tk)
    (hDm : ∀ mv' n' rd, fltL (x0 :: r) ≠ 0 → Dm (x0 :: x1 :: r) mv' n' rd (fltL (x0 :: r)))
    (hDk : fltL (x0 :: r) = 0 → Dm (x0 :: x1 :: r) ⟨numV x0, opv, numV (r.getD 0 []), numV (r.getD 1 [])⟩ 1 false 0) :
    Calls Tryz.prog 25 #[.slice a n c] w (MoA w (x0 :: x1 :: r)) := by
  have hl : n = r.length + 2 := by have := hW.1; simp only [List.length_cons] at this; omega
  obtain ⟨g, rfl, hgl, hc⟩ := hW.at (by omega)
  have c0 := hc 0 (by omega)
  have c1 := hc 1 (by omega)
  rw [List.getD_cons_zero] at c0
  rw [List.getD_cons_succ, List.getD_cons_zero] at c1
  obtain ⟨si, hsi, hs0, hs1, hs2⟩ := info_s
  have hWO := WsO.of hW
  have OPh := Mr.hid OP
  have ARh := Mr.hid AR
  have kx0 : ¬ (⟨x0.toArray⟩ : ByteArray).toList = [42] := by rw [toList_mk]; exact h0
  have kx0' : ((⟨x0.toArray⟩ : ByteArray).toList == [42]) = false := beq_eq_false_iff_ne.2 kx0
  have FLT : Hid (∀ W v av cv, v = .slice av (r.length + 1) cv → Mt w W x0 r v → Calls Tryz.prog 38 #[v] W fun e w' => e = .returned (.int .i64 (fltL (x0 :: r))) ∧ w' = W) := fun W v av cv e h => by
    subst e
    exact faults_any (x0 :: r) av (r.length + 1) cv W (WsO.of (WsAt.of h.row)) (by omega) (fun x hx => hsz x (by rcases List.mem_cons.1 hx with e | e <;> simp [e]))
  have NB : Hid (∀ x ∈ x0 :: r, ∀ W, Calls Tryz.prog 39 #[.string ⟨x.toArray⟩] W fun e w' => ∃ y : Int, e = .returned (.tuple #[.int .i64 y, .bool (numOk x).isSome]) ∧ ((numOk x).isSome = true → y = numV x) ∧ w' = W) := fun x hx W => by have := rNumber_any ⟨x.toArray⟩ W (by have := hsz x (by rcases List.mem_cons.1 hx with e | e <;> simp [e]); simp [ByteArray.size]; omega); simpa using this
  have hrow0 : ∀ (W : World) (t : TypeId), w.heap.size + 1 ≤ W.heap.size → Has (W.alloc (.cells #[.string ⟨x0.toArray⟩] 9)) (fun k => w.heap.size + 1 ≤ k) 9 1 (.slice (some ⟨W.heap.size, 0, none⟩) 1 1) 1 (strs [x0]) := fun W t h => has_new W _ 9 1 1 #[.string ⟨x0.toArray⟩] h (by decide) rfl
  have hsrc : Hid (∀ j u, (strs r)[j]? = some u → w.cell? ⟨g, 2 + j, none⟩ = some u) := fun j u hu => by
    simp only [strs, List.getElem?_map] at hu
    cases hx : r[j]? with
    | none => rw [hx] at hu; cases hu
    | some x =>
      rw [hx] at hu
      cases hu
      have hj := (List.getElem?_eq_some_iff.1 hx).1
      have := hc (2 + j) (by omega)
      rw [this]
      congr 3
      rw [show 2 + j = j + 1 + 1 by omega, List.getD_cons_succ, List.getD_cons_succ, List.getD_eq_getElem?_getD, hx]; rfl
  have kl : ¬ (n : Int) < 2 := by omega
  have kl' : decide ((n : Int) < 2) = false := decide_eq_false kl
  have kc : (2 : Int) ≤ (c : Int) := by omega
  have kc2 : (2 : Int) ≤ (n : Int) := by omega
  have kc3 : 2 ≤ n := by omega
  have ki0 : (0 : Int) < (n : Int) := by omega
  have ki1 : (1 : Int) < (n : Int) := by omega
  replace hl := Mr.hid hl
  generalize hX0 : (⟨x0.toArray⟩ : ByteArray) = X0 at *
  generalize hX1 : (⟨x1.toArray⟩ : ByteArray) = X1 at *
  have hX1' : X1.toList = x1 := by rw [← hX1, toList_mk]
  replace hX1' := Mr.hid hX1'
  replace hWO := Mr.hid hWO
  replace hrow0 := Mr.hid hrow0
  clear hW hc OP AR
  go_enter Tryz.func25, Tryz.ntmps25
  go_upto_region 9 with fail
  go_cut [8] (fun s8 wq => ∃ av cv, s8 = .slice av (r.length + 1) cv ∧ Mt w wq x0 r s8)
  case first =>
    have hlt : w.heap.size + 1 ≤ (w.alloc (.cells #[.int .i64 0, .int .i64 0, .int .i64 0, .int .i64 0] 42)).heap.size := by simp
    have hr0 := hrow0.out (w.alloc (.cells #[.int .i64 0, .int .i64 0, .int .i64 0, .int .i64 0] 42)) 0 hlt
    have hbx : ((w.alloc (.cells #[.int .i64 0, .int .i64 0, .int .i64 0, .int .i64 0] 42)).alloc (.cells #[.string X0] 9)).heap[w.heap.size]? = some (.cells #[.int .i64 0, .int .i64 0, .int .i64 0, .int .i64 0] 42 (0, 0)) := (Lib.alloc_old _ _ _ (by simp)).trans (new_at _ _ _ rfl)
    have hbl : Below w.heap.size w ((w.alloc (.cells #[.int .i64 0, .int .i64 0, .int .i64 0, .int .i64 0] 42)).alloc (.cells #[.string X0] 9)) := ((Below.refl _ _).alloc (Nat.le_refl _) _).alloc (by simp) _
    have hsz2 : ((w.alloc (.cells #[.int .i64 0, .int .i64 0, .int .i64 0, .int .i64 0] 42)).alloc (.cells #[.string X0] 9)).heap.size = w.heap.size + 2 := by simp
    have hs1' : (w.alloc (.cells #[.int .i64 0, .int .i64 0, .int .i64 0, .int .i64 0] 42)).heap.size = w.heap.size + 1 := by simp
    rw [hs1'] at hr0
    generalize (w.alloc (.cells #[.int .i64 0, .int .i64 0, .int .i64 0, .int .i64 0] 42)).alloc (.cells #[.string X0] 9) = w2 at *
    replace hr0 := Mr.hid hr0
    replace hbx := Mr.hid hbx
    replace hbl := Mr.hid hbl
    replace hsz2 := Mr.hid hsz2
    clear hlt hs1' hrow0 c0 c1
    by_cases hr : r = []
    · subst hr
      have hn2 : n = 2 := by have := hl.out; simpa using this
      subst hn2
      by_cases hc2 : 2 < c
      · have hcI : (2 : Int) < (c : Int) := by omega
        go_wp2_with (at_builtin; refine wpList_append_zero rfl _ _ 58 rfl 9 si Tryz.underlying58 hsi _ 1 1 (Nat.le_refl _) rfl _ _ rfl ?_)
        go_meet
        case rel => exact ⟨_, _, rfl, hbx.out, hr0.out, hbl.out⟩
      · obtain rfl : c = 2 := by omega
        go_wp2_with (at_builtin; refine wpList_append_zero rfl _ _ 58 rfl 9 si Tryz.underlying58 hsi _ 1 1 (Nat.le_refl _) rfl _ _ rfl ?_)
        go_meet
        case rel => exact ⟨_, _, rfl, hbx.out, hr0.out, hbl.out⟩
    · have hr1 : 0 < r.length := List.length_pos_iff.2 hr
      have hcI : (2 : Int) < (c : Int) := by have := hl.out; omega
      have hc2 : 2 < c := by omega
      have hsr : Hid (∀ j u, (strs r)[j]? = some u → w2.cell? ((⟨g, 2, none⟩ : Addr).add j) = some u) := fun j u hu => by
        rw [add1]
        exact (hbl.out.cell (p := ⟨g, 2 + j, none⟩) hgl).trans (hsrc.out j u hu)
      have hlr : Hid (n - 2 = r.length) := by show _ = _; have := hl.out; omega
      have hle : Hid (r.length ≤ 1048576) := by show _ ≤ _; have := hl.out; omega
      clear hsrc
      go_wp2_with (at_builtin; refine wpList_append_has _ rfl _ _ 58 rfl (fun k => w.heap.size + 1 ≤ k) 9 si (.string ⟨#[]⟩) 1 16 Tryz.underlying58 hsi hs0 hs1 hs2 rfl _ _ _ rfl hr0.out ⟨g, 2, none⟩ (n - 2) (c - 2) (strs r) rfl (by rw [hlr.out]; simp [strs]) hsr.out (strs_one r) (by have := hlr.out; omega) (by have := hlr.out; have := hle.out; unfold maxLen; omega) (by have := hlr.out; have := hle.out; omega) (by have := hsz2.out; omega) ?_; intro g2 cap2 w3 hh3 hgr hgg)
      have hB3 : Below (w.heap.size + 1) w2 w3 := (Below.refl _ _).grown hgr (by have := hsz2.out; omega) (fun k hk => (hr0.out.lt k hk).1)
      have e1 : 1 + (n - 2) = r.length + 1 := by have := hlr.out; omega
      rw [e1] at hh3 ⊢
      have hMt : Mt w w3 x0 r (.slice (some ⟨g2, 0, none⟩) (r.length + 1) cap2) := ⟨(hB3.block _ (by omega)).trans hbx.out, hh3, hbl.out.trans (hB3.mono (by omega))⟩
      replace hMt := Mr.hid hMt
      clear hh3 hgr hgg hB3 e1
      go_wp2
      go_meet
      case rel => exact ⟨_, _, rfl, hMt.out⟩
  case rest =>
    obtain ⟨av, cv, rfl, hMt⟩ := hcut
    generalize wc = w5 at *
    have c1' : w5.cell? ⟨g, 1, none⟩ = some (.string X1) := (hMt.bel.cell (p := ⟨g, 1, none⟩) hgl).trans c1
    have hg5 : g < w5.heap.size := Nat.lt_of_lt_of_le hgl hMt.bel.size
    have F5 := Mr.hid (FLT.out w5 _ av cv rfl hMt)
    have b5 := hMt.box
    replace hMt := Mr.hid hMt
    clear c0 c1 hrow0 hsrc FLT kl kl' kx0 kx0'
    have k46 : (X1.toList == [46]) = false := by rw [hX1'.out]; exact beq_eq_false_iff_ne.2 hk.1
    have k46' : ¬ X1.toList = [46] := by rw [hX1'.out]; exact hk.1
    have k11 : (X1.toList == [111, 112]) = false := by rw [hX1'.out]; exact beq_eq_false_iff_ne.2 hk.2.1
    have k11' : ¬ X1.toList = [111, 112] := by rw [hX1'.out]; exact hk.2.1
    have ko : 0 < opv := hk.2.2.1
    have ko' : decide (0 < opv) = true := decide_eq_true ko
    have ARh2 := Mr.hid (ARh.out ko)
    have kw : IntKind.i64.wrap (2 + tk) = 2 + tk := i64x _ (by omega) (by omega)
    have kn : ((n : Int) == 2 + tk) = true := by have := hl.out; have := hk.2.2.2; rw [beq_iff_eq]; omega
    have kn' : (n : Int) = 2 + tk := by have := hl.out; have := hk.2.2.2; omega
    replace kn' := Mr.hid kn'
    clear ARh
    by_cases hf : fltL (x0 :: r) = 0
    · rw [hf] at F5
      have N2 : Hid (∀ i x, (x0 :: r)[i]? = some x → ∀ W, Calls Tryz.prog 39 #[.string ⟨x.toArray⟩] W fun e w' => e = .returned (.tuple #[.int .i64 (numV x), .bool true]) ∧ w' = W) := fun i x hx W => (NB.out x (List.mem_of_getElem? hx) W).mono fun e w' ⟨y, h1, h2, h3⟩ => by
        have hk := flt_ok hf x (List.mem_of_getElem? hx)
        rw [hk] at h1
        rw [h2 hk] at h1
        exact ⟨h1, h3⟩
      obtain ⟨gt, capt, hvt, -, hgt, -, -⟩ := hMt.out.row.there (by omega)
      cases hvt
      have hct : Hid (∀ i x, (x0 :: r)[i]? = some x → w5.cell? ⟨gt, i, none⟩ = some (.string ⟨x.toArray⟩)) := fun i x hx => hMt.out.row.cells (g := gt) rfl i _ (by simp only [strs, List.getElem?_map, hx]; rfl)
      obtain ⟨ii, hii, hz0, hz1, hz2⟩ := info_i
      obtain ⟨m1, hm1⟩ : ∃ m1, m1 = r.length + 1 := ⟨_, rfl⟩
      have hml : m1 = (x0 :: r).length := by rw [hm1]; simp
      rw [← hm1] at F5 ⊢
      have hmb : m1 ≤ 1048577 := by have := hl.out; omega
      replace hm1 := Mr.hid hm1
      replace hml := Mr.hid hml
      replace hf := Mr.hid hf
      clear NB
      go_upto_region 20 with (first | (go_at_call 41; refine (OPh.out _).mono ?_; clear OPh; rintro e w9 ⟨rfl, hw9⟩; obtain rfl := hw9.symm) | (go_at_call 33; refine (ARh2.out _).mono ?_; clear ARh2; rintro e w9 ⟨rfl, hw9⟩; obtain rfl := hw9.symm) | (go_at_call 38; refine F5.out.mono ?_; clear F5; rintro e w9 ⟨rfl, hw9⟩; obtain rfl := hw9.symm))
      skip
      go_loopg [11, 92] m1 (fun gk s11 s92 wq => ∃ (u : Value) (i : Nat), s11 = u ∧ s92 = .int .i64 (i : Int) ∧ i + gk = m1 ∧ Has wq (fun k => w5.heap.size ≤ k) 3 1 u i (ints (((x0 :: r).map numV).take i)) ∧ Below w5.heap.size w5 wq)
      case atStart => exact ⟨_, 0, rfl, rfl, by omega, Has.nil _ _ _ _, Below.refl _ _⟩
      case round =>
        obtain ⟨u, i, rfl, rfl, hi, hu, hBq⟩ := hrel
        obtain ⟨au, cu, rfl, hcu⟩ := hu.form
        by_cases hlt : i < m1
        · have hil : i < (x0 :: r).length := by have := hml.out; omega
          obtain ⟨x, hx⟩ : ∃ x, (x0 :: r)[i]? = some x := ⟨_, List.getElem?_eq_getElem hil⟩
          have hxn : ((x0 :: r).map numV)[i]? = some (numV x) := by rw [List.getElem?_map, hx]; rfl
          have ct : wr.cell? ⟨gt, i, none⟩ = some (.string ⟨x.toArray⟩) := (hBq.cell (p := ⟨gt, i, none⟩) hgt).trans (hct.out i x hx)
          have hgq : gt < wr.heap.size := Nat.lt_of_lt_of_le hgt hBq.size
          have N3 := Mr.hid (N2.out i x hx)
          have htk' := Mr.hid (take_succ_of hxn)
          have hw : IntKind.i64.wrap ((i : Int) + 1) = (i : Int) + 1 := i64x _ (by omega) (by omega)
          have hlI : (i : Int) < (m1 : Int) := by omega
          have el : decide ((i : Int) < (m1 : Int)) = true := by simpa using hlI
          have hi' := Mr.hid hi
          replace hu := Mr.hid hu
          replace hBq := Mr.hid hBq
          generalize (⟨x.toArray⟩ : ByteArray) = X at *
          generalize numV x = nv at *
          clear hx hxn hi hct N2 hil
          go_upto_region 23 with (go_at_call 39; refine (N3.out _).mono ?_; clear N3; rintro e w9 ⟨rfl, hw9⟩; obtain rfl := hw9.symm)
          go_wp2_with (at_builtin; refine wpList_append_has _ rfl _ _ 87 rfl (fun k => w5.heap.size ≤ k) 3 ii (.int .i64 0) 1 8 Tryz.underlying87 hii hz0 hz1 hz2 rfl _ _ _ rfl (hu.out.alloc _) ⟨wr.heap.size, 0, none⟩ 1 1 [.int .i64 nv] rfl rfl (newsOne _ _ _ rfl) (by intro u hu; simp at hu; subst hu; rfl) (by decide) (by unfold maxLen; omega) (by omega) (by have := hBq.out.size; simp; omega) ?_; intro g2 cap2 w3 hh3 hgr hgg)
          have hB3 : Hid (Below w5.heap.size w5 w3) := (hBq.out.alloc hBq.out.size _).grown hgr (by have := hBq.out.size; simp; omega) (fun k hk => (hu.out.lt k hk).1)
          have hh4 : Hid (Has w3 (fun k => w5.heap.size ≤ k) 3 1 (.slice (some ⟨g2, 0, none⟩) (i + 1) cap2) (i + 1) (ints (((x0 :: r).map numV).take (i + 1)))) := by
            show Has _ _ _ _ _ _ _
            have h2 : ints (((x0 :: r).map numV).take (i + 1)) = ints (((x0 :: r).map numV).take i) ++ [.int .i64 nv] := by rw [htk'.out]; simp [ints]
            rw [h2]
            exact hh3
          clear hh3 hgr hgg hu hBq ct hgq
          go_wp2
          go_roundg (gk - 1)
          case measure => have := hi'.out; omega
          case rel => exact ⟨_, i + 1, rfl, by simp, by have := hi'.out; omega, hh4.out, hB3.out⟩
        · obtain rfl : i = m1 := by omega
          have hte : ((x0 :: r).map numV).take i = (x0 :: r).map numV := List.take_of_length_le (by have := hml.out; rw [List.length_map]; omega)
          rw [hte] at hu
          have hpos : 0 < i := by have := hm1.out; omega
          obtain ⟨gu, capu, hvu, -, hgu, hcapu, -⟩ := hu.there hpos
          cases hvu
          have hcu' : Hid (∀ j v, ((x0 :: r).map numV)[j]? = some v → wr.cell? ⟨gu, j, none⟩ = some (.int .i64 v)) := fun j v hv => hu.cells (g := gu) rfl j _ (by simp only [ints, List.getElem?_map] at hv ⊢; rw [hv]; rfl)
          have BB : Below w.heap.size w wr := hMt.out.bel.trans (hBq.mono hMt.out.bel.size)
          have bx : wr.heap[w.heap.size]? = some (.cells #[.int .i64 0, .int .i64 0, .int .i64 0, .int .i64 0] 42 (0, 0)) := (hBq.block _ hMt.out.lt).trans hMt.out.box
          have el : decide ((i : Int) < (i : Int)) = false := by simp
          have el2 : ¬ (i : Int) < (i : Int) := by omega
          have y0 := hcu'.out 0 _ rfl
          have c1q : wr.cell? ⟨g, 1, none⟩ = some (.string X1) := (hBq.cell (p := ⟨g, 1, none⟩) hg5).trans c1'
          have hgq : g < wr.heap.size := Nat.lt_of_lt_of_le hg5 hBq.size
          have hiI : (0 : Int) < (i : Int) := by omega
          have hbq := Mr.hid hBq
          clear hi hlt hte hct N2 hBq c1' hg5
          have q0 := cell_blk bx 0
          have q1 := cell_blk bx 1
          have q2 := cell_blk bx 2
          have q3 := cell_blk bx 3
          have hfz : ∀ k, wr.frozen? ⟨w.heap.size, k, none⟩ = false := fun k => by simp [World.frozen?, bx]
          have lb := (Array.getElem?_eq_some_iff.1 bx).1
          have hDk' := hDk hf.out
          have hBB := Mr.hid BB
          replace hDk' := Mr.hid hDk'
          have hne : w.heap.size ≠ wr.heap.size := by omega
          rcases r with _ | ⟨x2, _ | ⟨x3, _ | ⟨x4, r'⟩⟩⟩
          · have hi1 : i = 1 := by have := hm1.out; simpa using this
            subst hi1
            have hz : numV [] = 0 := by decide +kernel
            simp only [List.getD_nil, List.getD_cons_zero, List.getD_cons_succ, hz] at hDk'
            clear bx hu hcu' BB hDm hDk hMt hbq hWO b5
            generalize numV x0 = v0 at *
            go_wp2
            refine bodyPost_ret (v := .tuple #[.agg #[.int .i64 v0, .int .i64 opv, .int .i64 0, .int .i64 0], .int .i64 1, .bool false, .int .i64 0]) (by simp [results, Tryz.results25, go_sem, *]) rfl ⟨⟨v0, opv, 0, 0⟩, 1, false, 0, rfl, ⟨?_, fun h => by cases h⟩, ?_⟩
            · simpa using hDk'.out
            · have t := ((((hBB.out.setCell (p := ⟨w.heap.size, 0, none⟩) (Nat.le_refl _) (.int .i64 v0)).setCell (p := ⟨w.heap.size, 1, none⟩) (Nat.le_refl _) (.int .i64 opv)).setCell (p := ⟨w.heap.size, 2, none⟩) (Nat.le_refl _) (.int .i64 0)).setCell (p := ⟨w.heap.size, 3, none⟩) (Nat.le_refl _) (.int .i64 0))
              exact t.alloc t.size _
          · have hi1 : i = 2 := by have := hm1.out; simpa using this
            subst hi1
            have y1 := hcu'.out 1 _ rfl
            have hz : numV [] = 0 := by decide +kernel
            simp only [List.getD_nil, List.getD_cons_zero, List.getD_cons_succ, hz] at hDk'
            clear bx hu hcu' BB hDm hDk hMt hbq hWO b5
            generalize numV x0 = v0 at *
            generalize numV x2 = v2 at *
            go_wp2
            refine bodyPost_ret (v := .tuple #[.agg #[.int .i64 v0, .int .i64 opv, .int .i64 v2, .int .i64 0], .int .i64 1, .bool false, .int .i64 0]) (by simp [results, Tryz.results25, go_sem, *]) rfl ⟨⟨v0, opv, v2, 0⟩, 1, false, 0, rfl, ⟨?_, fun h => by cases h⟩, ?_⟩
            · simpa using hDk'.out
            · have t := ((((hBB.out.setCell (p := ⟨w.heap.size, 0, none⟩) (Nat.le_refl _) (.int .i64 v0)).setCell (p := ⟨w.heap.size, 1, none⟩) (Nat.le_refl _) (.int .i64 opv)).setCell (p := ⟨w.heap.size, 2, none⟩) (Nat.le_refl _) (.int .i64 v2)).setCell (p := ⟨w.heap.size, 3, none⟩) (Nat.le_refl _) (.int .i64 0))
              exact t.alloc t.size _
          · have hi1 : i = 3 := by have := hm1.out; simpa using this
            subst hi1
            have y1 := hcu'.out 1 _ rfl
            have y2 := hcu'.out 2 _ rfl
            have hz : numV [] = 0 := by decide +kernel
            simp only [List.getD_nil, List.getD_cons_zero, List.getD_cons_succ, hz] at hDk'
            clear bx hu hcu' BB hDm hDk hMt hbq hWO b5
            generalize numV x0 = v0 at *
            generalize numV x2 = v2 at *
            generalize numV x3 = v3 at *
            go_wp2
            refine bodyPost_ret (v := .tuple #[.agg #[.int .i64 v0, .int .i64 opv, .int .i64 v2, .int .i64 v3], .int .i64 1, .bool false, .int .i64 0]) (by simp [results, Tryz.results25, go_sem, *]) rfl ⟨⟨v0, opv, v2, v3⟩, 1, false, 0, rfl, ⟨?_, fun h => by cases h⟩, ?_⟩
            · simpa using hDk'.out
            · have t := ((((hBB.out.setCell (p := ⟨w.heap.size, 0, none⟩) (Nat.le_refl _) (.int .i64 v0)).setCell (p := ⟨w.heap.size, 1, none⟩) (Nat.le_refl _) (.int .i64 opv)).setCell (p := ⟨w.heap.size, 2, none⟩) (Nat.le_refl _) (.int .i64 v2)).setCell (p := ⟨w.heap.size, 3, none⟩) (Nat.le_refl _) (.int .i64 v3))
              exact t.alloc t.size _
          · exfalso
            have := hk.2.2.2
            have := htk.2
            simp only [List.length_cons] at *
            omega
    · have hD := Mr.hid (hDm noMv 0 false hf)
      generalize hfe : fltL (x0 :: r) = f at *
      have hne : (f != 0) = true := bne_iff_ne.2 hf
      have hne2 : ¬ f = 0 := hf
      have q0 := cell_blk b5 0
      have q1 := cell_blk b5 1
      have q2 := cell_blk b5 2
      have q3 := cell_blk b5 3
      have hfz : ∀ k, w5.frozen? ⟨w.heap.size, k, none⟩ = false := fun k => by simp [World.frozen?, b5]
      have lb := (Array.getElem?_eq_some_iff.1 b5).1
      have hB := Mr.hid hMt.out.bel
      clear hMt b5 hfe NB
      go_wp2_with (first | (go_at_call 41; refine (OPh.out _).mono ?_; clear OPh; rintro e w9 ⟨rfl, hw9⟩; obtain rfl := hw9.symm) | (go_at_call 33; refine (ARh2.out _).mono ?_; clear ARh2; rintro e w9 ⟨rfl, hw9⟩; obtain rfl := hw9.symm) | (go_at_call 38; refine F5.out.mono ?_; clear F5; rintro e w9 ⟨rfl, hw9⟩; obtain rfl := hw9.symm))
      refine bodyPost_ret (v := .tuple #[.agg #[.int .i64 0, .int .i64 0, .int .i64 0, .int .i64 0], .int .i64 0, .bool false, .int .i64 f]) (by simp [results, Tryz.results25, go_sem, *]) rfl ⟨noMv, 0, false, f, rfl, ⟨hD.out, fun h => by cases h⟩, ?_⟩
      exact ((((hB.out.setCell (p := ⟨w.heap.size, 0, none⟩) (Nat.le_refl _) _).setCell (p := ⟨w.heap.size, 1, none⟩) (Nat.le_refl _) _).setCell (p := ⟨w.heap.size, 2, none⟩) (Nat.le_refl _) _).setCell (p := ⟨w.heap.size, 3, none⟩) (Nat.le_refl _) _)
end Go.Proofs.YtcomelbphdjnnaaGreatDoor.Sc
