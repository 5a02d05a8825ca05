import Derived.Test.YtglppcoohojmpaaRfJn7
import Derived.Test.YtglppcoohojmpaaJ16
import Derived.Test.YtglppcoohojmpaaJ15
/-
  MachineJoins: the machines are made.
-/
namespace Go.Proofs.Ytglppcoohojmpaa.Rf
open Go.RowKit Go.Shelf Mr Me Ma
set_option linter.unusedVariables false
theorem jn_c0 (w : World) (x y : Value) : (w.alloc (.cells #[x, y] 32)).cell? ⟨w.heap.size, 0, none⟩ = some x := by
  have h := heap_alloc_new w (.cells #[x, y] 32)
  unfold World.cell?
  simp only
  rw [h]
  rfl
theorem jn_c1 (w : World) (x y : Value) : (w.alloc (.cells #[x, y] 32)).cell? ⟨w.heap.size, 1, none⟩ = some y := by
  have h := heap_alloc_new w (.cells #[x, y] 32)
  unfold World.cell?
  simp only
  rw [h]
  rfl
theorem jn_m {w w' : World} {km : Nat} {o : Obj} (h : w.heap[km]? = some o) (hB : Below w.heap.size w w') : w'.heap[km]? = some o := (hB.block _ (Array.getElem?_eq_some_iff.1 h).1).trans h
theorem joined_kg {w2 w4 : World} {b lim x0 km : Nat} {o : Obj} (k2 : Kt w2 (fun k => b ≤ k ∧ k < w2.heap.size) b lim (b + 1) (b + 1 + 1) (b + 1 + 1 + 1) (b + 1 + 1 + 1 + 1)) (hB : Below w2.heap.size w2 w4) (ho : w4.heap[km]? = some o) (hr : Rd o (wf (b + 1) (b + 1 + 1)) (wf (b + 1 + 1 + 1) (b + 1 + 1 + 1 + 1))) (hx : x0 ≤ b) (hk : x0 ≤ km) (hkl : km < w4.heap.size) : KG w4 (fun k => x0 ≤ k ∧ k < w4.heap.size) km lim := by
  obtain ⟨l0, l1, l2, l3, l4⟩ := k2.lt
  have hs := hB.size
  exact rd_kg ho hr (k2.c1.kept (hB.block _ l1) (hB.block _ l2)) (k2.c2.kept (hB.block _ l3) (hB.block _ l4)) ⟨⟨hk, hkl⟩, ⟨by omega, by omega⟩, ⟨by omega, by omega⟩, ⟨by omega, by omega⟩, ⟨by omega, by omega⟩⟩ (fun k hk => hk.2)
theorem kits_join {W wo1 wo2 : World} {l1 l2 : Nat} (k1 : Kt wo1 (fun k => W.heap.size ≤ k ∧ k < wo1.heap.size) W.heap.size l1 (W.heap.size + 1) (W.heap.size + 1 + 1) (W.heap.size + 1 + 1 + 1) (W.heap.size + 1 + 1 + 1 + 1)) (k2 : Kt wo2 (fun k => wo1.heap.size ≤ k ∧ k < wo2.heap.size) wo1.heap.size l2 (wo1.heap.size + 1) (wo1.heap.size + 1 + 1) (wo1.heap.size + 1 + 1 + 1) (wo1.heap.size + 1 + 1 + 1 + 1)) (B1 : Below W.heap.size W wo1) (B2 : Below wo1.heap.size wo1 wo2) :
    Calls Try.prog 9 #[.slice (some ⟨wo2.heap.size, 0, none⟩) 2 2] (wo2.alloc (.cells #[.map (some W.heap.size), .map (some wo1.heap.size)] 32)) fun e wj => ∃ km, e = .returned (.map (some km)) ∧ KG wj (fun k => W.heap.size ≤ k ∧ k < wj.heap.size) km l2 ∧ Below W.heap.size W wj := by
  obtain ⟨w3, hw3⟩ : ∃ w3, wo2.alloc (.cells #[.map (some W.heap.size), .map (some wo1.heap.size)] 32) = w3 := ⟨_, rfl⟩
  have A3 : Below wo2.heap.size wo2 w3 := by rw [← hw3]; exact (Below.refl _ _).alloc (Nat.le_refl _) _
  have c0 : w3.cell? ⟨wo2.heap.size, 0, none⟩ = some (.map (some W.heap.size)) := by rw [← hw3]; exact jn_c0 wo2 _ _
  have c1 : w3.cell? ⟨wo2.heap.size, 1, none⟩ = some (.map (some wo1.heap.size)) := by rw [← hw3]; exact jn_c1 wo2 _ _
  have s3 : w3.heap.size = wo2.heap.size + 1 := by rw [← hw3]; simp
  have z1 := B1.size
  have z2 := B2.size
  have m1 : w3.heap[W.heap.size]? = some (two 1 (wf (W.heap.size + 1) (W.heap.size + 1 + 1)) 2 (wf (W.heap.size + 1 + 1 + 1) (W.heap.size + 1 + 1 + 1 + 1))) := jn_m (jn_m k1.m B2) A3
  have m2 : w3.heap[wo1.heap.size]? = some (two 1 (wf (wo1.heap.size + 1) (wo1.heap.size + 1 + 1)) 2 (wf (wo1.heap.size + 1 + 1 + 1) (wo1.heap.size + 1 + 1 + 1 + 1))) := jn_m k2.m A3
  rw [hw3]
  refine (join_two w3 wo2.heap.size 2 _ _ _ _ _ _ (Nat.le_refl _) (by decide) c0 c1 m1 m2).mono ?_
  rintro e wj ⟨rfl, ⟨oj, hoj, hrj⟩, hBj, zj⟩
  have B3 : Below W.heap.size W w3 := (B1.trans (B2.mono z1)).trans (A3.mono (by omega))
  exact ⟨_, rfl, joined_kg k2 (A3.trans (hBj.mono (by omega))) hoj hrj z1 (by omega) zj, B3.trans (hBj.mono (by omega))⟩
theorem none_kg (W : World) : Calls Try.prog 9 #[.slice none 0 0] W fun e wj => ∃ km, e = .returned (.map (some km)) ∧ KG wj (fun k => W.heap.size ≤ k ∧ k < wj.heap.size) km 0 ∧ Below W.heap.size W wj := by
  refine (join_none W).mono ?_
  rintro e wj ⟨rfl, rfl⟩
  exact ⟨_, rfl, empty_kg (heap_alloc_new W _) ⟨Nat.le_refl _, by simp⟩ (fun k hk => hk.2), (Below.refl _ _).alloc (Nat.le_refl _) _⟩
theorem k3_store' {w W : World} {x y z : Value} (h : K3 w W x y z) (x' y' z' : Value) : K3 w (((W.setCell ⟨w.heap.size, 0, none⟩ x').setCell ⟨w.heap.size, 1, none⟩ y').setCell ⟨w.heap.size, 2, none⟩ z') x' y' z' := by
  refine ⟨((h.1.setCell (p := ⟨w.heap.size, 0, none⟩) (Nat.le_refl _) _).setCell (p := ⟨w.heap.size, 1, none⟩) (Nat.le_refl _) _).setCell (p := ⟨w.heap.size, 2, none⟩) (Nat.le_refl _) _, ?_⟩
  rw [setBlk (setBlk (setBlk h.2 0 _) 1 _) 2 _]
  rfl
set_option maxRecDepth 100000 in
set_option maxHeartbeats 8000000 in
theorem joins_law (th : Int) (a : Option Addr) (n0 cap : Nat) (ws0 : List Int) (am : Option Addr) (nm0 cm : Nat) (ms0 : List Mv) (u : Int) (w : World) (hs0 : Src w a n0 cap ws0) (hm0 : MvAt w am nm0 ms0) (hn0 : n0 ≤ cap) (hnm0 : nm0 ≤ cm) {p : Prop} (_ : p) :
    Calls Try.prog 3 #[.agg #[.int .i64 th, .slice a n0 cap, .slice am nm0 cm], .int .i64 u] w fun e w' => e = .returned (.bool true) ∧ Below w.heap.size w w' := by
  obtain ⟨h1, h2⟩ := fitT_pos th
  have FT := fun (W' : World) => fit_any W' th a n0 cap am nm0 cm hn0 hnm0 (fun h => by rcases hs0.2 with ⟨_, h0, _⟩ | ⟨ad, e, _⟩; omega; exact ⟨ad, e⟩) (fun h => by rcases hm0.2 with h0 | ⟨b, o, e, _⟩; (have := hm0.1; rw [h0] at this; simp at this; omega); exact ⟨_, e⟩)
  have hs := src_take hs0 8192
  have hm := hm0.take 65536
  have hn : min n0 8192 ≤ 8192 := Nat.min_le_right _ _
  have hnm : min nm0 65536 ≤ 65536 := Nat.min_le_right _ _
  clear hs0 hm0
  generalize min n0 8192 = n at *
  generalize min nm0 65536 = nm at *
  generalize ws0.take 8192 = ws at *
  generalize ms0.take 65536 = ms at *
  generalize fitT th = nth at *
  have hl := Mr.hid hs.1
  have K0 : K3 w (w.alloc (.cells #[.int .i64 th, .slice a n0 cap, .slice am nm0 cm] 25)) (.int .i64 th) (.slice a n0 cap) (.slice am nm0 cm) := ⟨(Below.refl _ _).alloc (Nat.le_refl _) _, heap_alloc_new w _⟩
  have FT0 := Mr.hid (FT (w.alloc (.cells #[.int .i64 th, .slice a n0 cap, .slice am nm0 cm] 25)))
  replace K0 := Mr.hid K0
  replace hs := Mr.hid hs
  replace hm := Mr.hid hm
  clear FT hn0 hnm0
  go_enter Try.func3, Try.ntmps3
  go_upto_region 2 with (first
    | (go_at_call 7; refine FT0.out.mono ?_; clear FT0; rintro e w1 ⟨rfl, hB1⟩; have K1 := K0.out.below hB1; obtain ⟨f0, f1, f2, hw1⟩ := K1.cells; have fz : ∀ j, w1.frozen? ⟨w.heap.size, j, none⟩ = false := (fun j => by simp [World.frozen?, K1.2]); have KW := Mr.hid (k3_store' K1 (.int .i64 (nth : Int)) (.slice a n cap) (.slice am nm cm)); clear K1 hB1 K0)
    | fail)
  generalize ((w1.setCell ⟨w.heap.size, 0, none⟩ (.int .i64 (nth : Int))).setCell ⟨w.heap.size, 1, none⟩ (.slice a n cap)).setCell ⟨w.heap.size, 2, none⟩ (.slice am nm cm) = W at *
  clear f0 f1 f2 fz hw1
  obtain ⟨f0, f1, f2, hw1⟩ := KW.out.cells
  go_cut [28] (fun t wx => t = .bool (decide (u < 0) || decide ((n : Int) < u)) ∧ wx = W)
  case first =>
    cases e1 : decide (u < 0) <;> go_wp2 <;> go_meet <;> (simp at e1 ⊢; omega)
  case rest =>
    obtain ⟨rfl, hw⟩ := hcut
    obtain rfl := hw.symm
    go_upto_if 28 with fail
    go_cut [1] (fun s wx => (∃ up : Nat, s = .int .i64 (up : Int) ∧ up ≤ n) ∧ wx = W)
    case first =>
      cases e1 : (decide (u < 0) || decide ((n : Int) < u))
      · rw [Bool.or_eq_false_iff] at e1
        have e2 : ¬ u < 0 := by simpa using e1.1
        have e3 : ¬ (n : Int) < u := by simpa using e1.2
        obtain ⟨un, rfl⟩ : ∃ un : Nat, u = un := ⟨u.toNat, by omega⟩
        go_wp2
        go_meet
        case rel => exact ⟨⟨un, rfl, by omega⟩, rfl⟩
      · go_wp2
        go_meet
        case rel => exact ⟨⟨0, rfl, by omega⟩, rfl⟩
    case rest =>
      obtain ⟨⟨small, rfl, hsm⟩, hw⟩ := hcut
      obtain rfl := hw.symm
      go_upto_region 4 with fail
      have T1 := Mr.hid trivial
      have T2 := Mr.hid trivial
      have BE := Mr.hid (Below.refl W.heap.size W).drew
      have KF := Mr.hid (fun (W' : World) (hB : Below W.heap.size W W') => (KW.out.below hB))
      obtain ⟨f0, f1, f2, hwf⟩ := KW.out.cells
      go_cut [5, 6] (fun s5 s6 wx => ∃ (q : Ph) (U : Nat → Prop) (km x1 : Nat), s5 = .pointer (some ⟨q.b, 0, none⟩) ∧ s6 = .int .i64 0 ∧ LvG wx U (fun k => W.heap.size ≤ k ∧ k < x1) km n q (Pm.new nth ws) ∧ (W.heap.size ≤ x1 ∧ x1 ≤ wx.heap.size) ∧ (∀ k, U k → x1 ≤ k) ∧ Below W.heap.size W wx)
      case first =>
        go_wp2
        go_region_held3 (fun w' => w'.cell? ⟨w.heap.size, 0, none⟩ = some (.int .i64 (nth : Int)) ∧ w'.cell? ⟨w.heap.size, 1, none⟩ = some (.slice a n cap)) (first | exact ⟨(KF.out _ BN.out).cells.1, (KF.out _ BN.out).cells.2.1⟩ | exact ⟨(KF.out _ BJ.out).cells.1, (KF.out _ BJ.out).cells.2.1⟩ | exact ⟨(KF.out _ BO2.out).cells.1, (KF.out _ BO2.out).cells.2.1⟩ | exact ⟨(KF.out _ BO1.out).cells.1, (KF.out _ BO1.out).cells.2.1⟩ | exact ⟨(KF.out _ BE.out).cells.1, (KF.out _ BE.out).cells.2.1⟩ | exact ⟨(KF.out _ (BO2.out.alloc BO2.out.size _)).cells.1, (KF.out _ (BO2.out.alloc BO2.out.size _)).cells.2.1⟩ | go_keep)
          (first
            | (go_at_call 10; first
                | (clear T1; refine (own_any _ _).mono ?_; rintro e wo1 ⟨rfl, hKt1, hBy⟩; have BO1 := Mr.hid (BE.out.trans (hBy.mono BE.out.size)); have zo1 := hBy.size; have KM1 := Mr.hid (hKt1.kept (fun _ _ => rfl)); replace hKt1 := Mr.hid hKt1; clear hBy)
                | (clear T2; refine (own_any _ _).mono ?_; rintro e wo2 ⟨rfl, hKt2, hBy⟩; have BO2 := Mr.hid (BO1.out.trans (hBy.mono BO1.out.size)); have zo2 := hBy.size; have BY2 := Mr.hid hBy; replace hKt2 := Mr.hid hKt2; clear hBy))
            | (go_at_call 9; refine (kits_join (W := W) hKt1.out hKt2.out BO1.out BY2.out).mono ?_; rintro e wj ⟨km, rfl, hkj, hbj⟩; have KJ := Mr.hid hkj; have BJ := Mr.hid hbj; have zj' := hbj.size; clear hkj hbj)
            | (go_at_call 8; refine (newMG _ nth h1 h2 a n cap ws (hs.out.below (KF.out _ BJ.out).1) hn KJ.out (fun k hk => hk.2)).mono ?_; rintro e wn ⟨q, U, rfl, hR, hvs, hU, hBn⟩; have LL := Mr.hid (LvG.mk hR hvs (by show n ≤ ws.length; rw [← hl.out]; omega)); have BN := Mr.hid (BJ.out.trans (hBn.mono BJ.out.size)); have UU := Mr.hid hU; have zn := hBn.size; clear hR hU hBn hvs))
        all_goals go_wp2
        all_goals go_meet
        all_goals exact ⟨q, U, _, _, rfl, rfl, LL.out, ⟨zj', zn⟩, UU.out, BN.out⟩
      case rest =>
        obtain ⟨qa, Ua, kma, x1, rfl, rfl, La, ⟨zx1, yx1⟩, ua, Ba⟩ := hcut
        generalize wc = WA at *
        have KWA := Mr.hid (KW.out.below Ba)
        have la := La.ul
        have zza := Ba.size
        clear T1 T2 BE KF f0 f1 f2 hwf
        replace La := Mr.hid La
        replace la := Mr.hid la
        replace ua := Mr.hid ua
        replace Ba := Mr.hid Ba
        go_upto_region 5 with fail
        have T1 := Mr.hid trivial
        have T2 := Mr.hid trivial
        have BE := Mr.hid (Below.refl WA.heap.size WA).drew
        have KF := Mr.hid (fun (W' : World) (hB : Below WA.heap.size WA W') => (KWA.out.below hB))
        obtain ⟨f0, f1, f2, hwf⟩ := KWA.out.cells
        go_cut [7, 8] (fun s5 s6 wx => ∃ (q : Ph) (U : Nat → Prop) (km x1 : Nat), s5 = .pointer (some ⟨q.b, 0, none⟩) ∧ s6 = .int .i64 0 ∧ LvG wx U (fun k => WA.heap.size ≤ k ∧ k < x1) km small q (Pm.new nth ws) ∧ (WA.heap.size ≤ x1 ∧ x1 ≤ wx.heap.size) ∧ (∀ k, U k → x1 ≤ k) ∧ Below WA.heap.size WA wx)
        case first =>
          go_wp2
          go_region_held3 (fun w' => w'.cell? ⟨w.heap.size, 0, none⟩ = some (.int .i64 (nth : Int)) ∧ w'.cell? ⟨w.heap.size, 1, none⟩ = some (.slice a n cap)) (first | exact ⟨(KF.out _ BN.out).cells.1, (KF.out _ BN.out).cells.2.1⟩ | exact ⟨(KF.out _ BJ.out).cells.1, (KF.out _ BJ.out).cells.2.1⟩ | exact ⟨(KF.out _ BO2.out).cells.1, (KF.out _ BO2.out).cells.2.1⟩ | exact ⟨(KF.out _ BO1.out).cells.1, (KF.out _ BO1.out).cells.2.1⟩ | exact ⟨(KF.out _ BE.out).cells.1, (KF.out _ BE.out).cells.2.1⟩ | exact ⟨(KF.out _ (BO2.out.alloc BO2.out.size _)).cells.1, (KF.out _ (BO2.out.alloc BO2.out.size _)).cells.2.1⟩ | go_keep)
            (first
              | (go_at_call 10; first
                  | (clear T1; refine (own_any _ _).mono ?_; rintro e wo1 ⟨rfl, hKt1, hBy⟩; have BO1 := Mr.hid (BE.out.trans (hBy.mono BE.out.size)); have zo1 := hBy.size; have KM1 := Mr.hid (hKt1.kept (fun _ _ => rfl)); replace hKt1 := Mr.hid hKt1; clear hBy)
                  | (clear T2; refine (own_any _ _).mono ?_; rintro e wo2 ⟨rfl, hKt2, hBy⟩; have BO2 := Mr.hid (BO1.out.trans (hBy.mono BO1.out.size)); have zo2 := hBy.size; have BY2 := Mr.hid hBy; replace hKt2 := Mr.hid hKt2; clear hBy))
              | (go_at_call 9; refine (kits_join (W := WA) hKt1.out hKt2.out BO1.out BY2.out).mono ?_; rintro e wj ⟨km, rfl, hkj, hbj⟩; have KJ := Mr.hid hkj; have BJ := Mr.hid hbj; have zj' := hbj.size; clear hkj hbj)
              | (go_at_call 8; refine (newMG _ nth h1 h2 a n cap ws (hs.out.below (KF.out _ BJ.out).1) hn KJ.out (fun k hk => hk.2)).mono ?_; rintro e wn ⟨q, U, rfl, hR, hvs, hU, hBn⟩; have LL := Mr.hid (LvG.mk hR hvs (by show small ≤ ws.length; rw [← hl.out]; omega)); have BN := Mr.hid (BJ.out.trans (hBn.mono BJ.out.size)); have UU := Mr.hid hU; have zn := hBn.size; clear hR hU hBn hvs))
          all_goals go_wp2
          all_goals go_meet
          all_goals exact ⟨q, U, _, _, rfl, rfl, LL.out, ⟨zj', zn⟩, UU.out, BN.out⟩
        case rest =>
          obtain ⟨qb, Ub, kmb, x3, rfl, rfl, Lb, ⟨zx3, yx3⟩, ub, Bb⟩ := hcut
          generalize wc = WB at *
          have KWB := Mr.hid (KWA.out.below Bb)
          have lb := Lb.ul
          have zzb := Bb.size
          clear T1 T2 BE KF f0 f1 f2 hwf
          have La' := Mr.hid (La.out.kept (fun k hk => Bb.block k (by have h0 := la.out; rcases hk with g | g; have h0 := h0 k g; omega; omega)) Bb.size)
          clear La
          have La := La'
          clear La'
          replace Lb := Mr.hid Lb
          replace lb := Mr.hid lb
          replace ub := Mr.hid ub
          replace Bb := Mr.hid Bb
          have T1 := Mr.hid trivial
          have T2 := Mr.hid trivial
          have BE := Mr.hid (Below.refl WB.heap.size WB).drew
          have KF := Mr.hid (fun (W' : World) (hB : Below WB.heap.size WB W') => (KWB.out.below hB))
          obtain ⟨f0, f1, f2, hwf⟩ := KWB.out.cells
          go_upto_region 6 with fail
          go_cut [9, 10] (fun s5 s6 wx => ∃ (q : Ph) (U : Nat → Prop) (km x1 : Nat), s5 = .pointer (some ⟨q.b, 0, none⟩) ∧ s6 = .int .i64 0 ∧ LvG wx U (fun k => WB.heap.size ≤ k ∧ k < x1) km 0 q (Pm.new nth ws) ∧ (WB.heap.size ≤ x1 ∧ x1 ≤ wx.heap.size) ∧ (∀ k, U k → x1 ≤ k) ∧ Below WB.heap.size WB wx)
          case first =>
            go_wp2
            go_region_held3 (fun w' => w'.cell? ⟨w.heap.size, 0, none⟩ = some (.int .i64 (nth : Int)) ∧ w'.cell? ⟨w.heap.size, 1, none⟩ = some (.slice a n cap)) (first | exact ⟨(KF.out _ BN.out).cells.1, (KF.out _ BN.out).cells.2.1⟩ | exact ⟨(KF.out _ BJ.out).cells.1, (KF.out _ BJ.out).cells.2.1⟩ | exact ⟨(KF.out _ BE.out).cells.1, (KF.out _ BE.out).cells.2.1⟩ | go_keep)
              (first
                | (go_at_call 9; refine (none_kg WB.drew).mono ?_; rintro e wj ⟨km, rfl, hkj, hbj⟩; have KJ := Mr.hid hkj; have BJ := Mr.hid (BE.out.trans (hbj.mono BE.out.size)); have zj' := BJ.out.size; clear hkj hbj)
                | (go_at_call 8; refine (newMG _ nth h1 h2 a n cap ws (hs.out.below (KF.out _ BJ.out).1) hn KJ.out (fun k hk => hk.2)).mono ?_; rintro e wn ⟨q, U, rfl, hR, hvs, hU, hBn⟩; have LL := Mr.hid (LvG.mk hR hvs (Nat.zero_le _)); have BN := Mr.hid (BJ.out.trans (hBn.mono BJ.out.size)); have UU := Mr.hid hU; have zn := hBn.size; clear hR hU hBn hvs))
            all_goals go_wp2
            all_goals go_meet
            all_goals exact ⟨q, U, _, _, rfl, rfl, LL.out, ⟨zj', zn⟩, UU.out, BN.out⟩
          case rest =>
            obtain ⟨qc, Uc, kmc, x5, rfl, rfl, Lc, ⟨zx5, yx5⟩, uc, Bc⟩ := hcut
            generalize wc = WC at *
            have KWC := Mr.hid (KWB.out.below Bc)
            have lc := Lc.ul
            have zzc := Bc.size
            clear T1 T2 BE KF f0 f1 f2 hwf
            have La' := Mr.hid (La.out.kept (fun k hk => Bc.block k (by have h0 := la.out; rcases hk with g | g; have h0 := h0 k g; omega; omega)) Bc.size)
            clear La
            have La := La'
            clear La'
            have Lb' := Mr.hid (Lb.out.kept (fun k hk => Bc.block k (by have h0 := lb.out; rcases hk with g | g; have h0 := h0 k g; omega; omega)) Bc.size)
            clear Lb
            have Lb := Lb'
            clear Lb'
            replace Lc := Mr.hid Lc
            replace lc := Mr.hid lc
            replace uc := Mr.hid uc
            replace Bc := Mr.hid Bc
            go_upto_region 7 with fail
            rename (∀ (a : Act) (w : World), Code.wp _ (Code.seq _ _) _ a w → _) => hK1
            replace hK1 := Mr.hid hK1
            go_wp2_with (go_at_call 11; refine (awake_any _).mono ?_; rintro e w9 ⟨rfl, hB9⟩; replace hB9 := Mr.hid hB9)
            refine hK1.out _ _ ?_
            have hB := hB9.out
            exact joins_7 (La.out.kept (fun k hk => hB.block k (by have := la.out; rcases hk with g | g; have := this k g; omega; omega)) hB.size) (Lb.out.kept (fun k hk => hB.block k (by have := lb.out; rcases hk with g | g; have := this k g; omega; omega)) hB.size) (Lc.out.kept (fun k hk => hB.block k (by have := lc.out; rcases hk with g | g; have := this k g; omega; omega)) hB.size) (KWC.out.below hB) (by omega) zx1 (by omega) zx3 (by omega) zx5 (by have := hB.size; omega) (fun k hk => ⟨ua.out k hk, la.out k hk⟩) (fun k hk => ⟨ub.out k hk, lb.out k hk⟩) uc.out h1 h2 hs.out hn hm.out hnm (by omega)
end Go.Proofs.Ytglppcoohojmpaa.Rf
