import Derived.Test.YtfhkgeoionkonaaGreatDoorJ28
import Derived.Laws.IdiomStrings
/-
  SCRIPT: ScriptFreely.
-/
namespace Go.Proofs.YtfhkgeoionkonaaGreatDoor.Sc
open Go.RowKit Mr
set_option linter.unusedVariables false
set_option linter.unusedSimpArgs false
set_option maxRecDepth 100000
/-- A row of bytes of one's own. -/
def Bw (B : Nat) (W : World) (v : Value) (l : List UInt8) : Prop := W.ownsRowF B 5 1 v l.length (Lib.byteCells l)
theorem Bw.form {B : Nat} {W : World} {v : Value} {l : List UInt8} (h : Bw B W v l) : ∃ a c, v = .slice a l.length c := by
  rcases h.2 with ⟨hv, h0⟩ | ⟨g, cap, cur, fz, hv, _⟩
  · exact ⟨none, 0, by rw [hv, h0]⟩
  · exact ⟨_, _, hv⟩
theorem bc_len (l : List UInt8) : (Lib.byteCells l).length = l.length := Lib.byteCells_length l
theorem bc_news (w : World) (l : List UInt8) (t : TypeId) {g : Nat} (hg : g = w.heap.size) {vs : Array Value} (hv : vs = (Lib.byteCells l).toArray) (k : Nat) : ∀ j v, ((Lib.byteCells l).drop k)[j]? = some v → (w.alloc (.cells vs t)).cell? ((⟨g, k, none⟩ : Addr).add j) = some v := by
  intro j v hj
  subst hg
  subst hv
  have e1 : (⟨w.heap.size, k, none⟩ : Addr).add j = ⟨w.heap.size, k + j, none⟩ := by unfold Addr.add; split <;> simp_all
  rw [e1, cell_blk (new_at _ _ _ rfl)]
  rw [List.getElem?_drop] at hj
  simpa using hj
theorem bc_one (l : List UInt8) : ∀ u ∈ Lib.byteCells l, u.oneCell' = true := by
  intro u hu
  simp only [Lib.byteCells, List.mem_map] at hu
  obtain ⟨b, _, rfl⟩ := hu
  rfl
theorem Bw.more {B : Nat} {W : World} {v : Value} {l k : List UInt8} (h : W.ownsRowF B 5 1 v (l.length + k.length) (Lib.byteCells l ++ Lib.byteCells k)) : Bw B W v (l ++ k) := by
  unfold Bw
  rw [List.length_append, Lib.byteCells_append]
  exact h
theorem bc_drop (l : List UInt8) (k : Nat) : (Lib.byteCells l).drop k = Lib.byteCells (l.drop k) := by simp [Lib.byteCells]
theorem grow_below {B : Nat} {W W1 W2 : World} {v : Value} {n : Nat} {xs : List Value} (hB : Below B W W1) (hs : B ≤ W.heap.size) (ho : W1.ownsRowF B 5 1 v n xs) (hg : W1.grownBy W2 v.ownBlock) : Below B W W2 := hB.grown hg (Nat.le_trans hs hB.size) (fun k hk => (ho.lt k hk).1)
set_option maxHeartbeats 32000000 in
theorem scriptFreely_any (a0 a1 a2 a3 a4 a5 a6 : Int) (a : Option Addr) (n cap : Nat) (ms : List Mv) (ab : Option Addr) (nb cb : Nat) (bs : List Nat) (w : World) (hbs : ByAt w ab nb bs) (V : EnvX w) (hM : MvAt w a n ms) (hcap : n ≤ cap) (hm : ∀ m ∈ ms, MvB m) :
    Calls Tryz.prog 6 #[.agg #[.int .i64 a0, .int .i64 a1, .int .i64 a2, .int .i64 a3, .int .i64 a4, .int .i64 a5, .int .i64 a6], .slice a n cap, .slice ab nb cb] w fun e w' => e = .returned (.bool true) ∧ Below w.heap.size w w' := by
  have E := V.env
  have RC := Mr.hid (fun W => Wc.refConfig a0 a1 a2 a3 a4 a5 a6 W)
  have AW := Mr.hid (fun W (hB : Below w.heap.size w W) => awake_any W (E.below hB))
  have SM := Mr.hid (fun W => small_any W)
  have hM' := Mr.hid (fun W (hB : Below w.heap.size w W) => hM.below hB)
  have hln := hM.1
  have PR := Mr.hid (fun x0 x1 x2 x3 x4 x5 x6 n1 (hc : Wc.cfgB x0 x1 x2 x3 x4 x5 x6 = true) (h1 : n1 ≤ n) (h2 : n1 ≤ 2000) W (hB : Below w.heap.size w W) => print_cut x0 x1 x2 x3 x4 x5 x6 a n n1 cap ms W (E.below hB) (hM'.out W hB) hm hc h1 (Nat.le_trans h1 hcap) (Nat.le_trans h2 (by decide)))
  replace hm := Mr.hid hm
  replace V := Mr.hid V
  replace hln := Mr.hid hln
  clear hM E
  have B0 : Hid (Below w.heap.size w (w.alloc (.cells #[.int .i64 a0, .int .i64 a1, .int .i64 a2, .int .i64 a3, .int .i64 a4, .int .i64 a5, .int .i64 a6] 23 (0, 0)))) := (Below.refl _ _).alloc (Nat.le_refl _) _
  go_enter Tryz.func6, Tryz.ntmps6
  go_upto_region 1 with fail
  go_cut [19] (fun t wc => t = .bool (!Wc.cfgB a0 a1 a2 a3 a4 a5 a6) ∧ wc.heap[w.heap.size]? = some (.cells #[.int .i64 a0, .int .i64 a1, .int .i64 a2, .int .i64 a3, .int .i64 a4, .int .i64 a5, .int .i64 a6] 23 (0, 0)) ∧ Below w.heap.size w wc)
  case first =>
    go_wp2_with (go_at_call 13; refine (RC.out _).mono ?_; clear RC; rintro e w1 ⟨rfl, B1⟩; replace B1 := Mr.hid B1)
    go_meet
    case rel => exact ⟨by simp, (B1.out.block _ (by simp)).trans (new_at _ _ _ rfl), B0.out.trans (B1.out.mono (by simp))⟩
  case rest =>
    obtain ⟨rfl, hbx, hBB⟩ := hcut
    clear RC B0
    go_upto_if 19 with fail
    go_cut [] (fun wc => ∃ x0 x1 x2 x3 x4 x5 x6 : Int, Wc.cfgB x0 x1 x2 x3 x4 x5 x6 = true ∧ wc.heap[w.heap.size]? = some (.cells #[.int .i64 x0, .int .i64 x1, .int .i64 x2, .int .i64 x3, .int .i64 x4, .int .i64 x5, .int .i64 x6] 23 (0, 0)) ∧ Below w.heap.size w wc)
    case first =>
      cases hbad : Wc.cfgB a0 a1 a2 a3 a4 a5 a6 with
      | false =>
        have lb := (Array.getElem?_eq_some_iff.1 hbx).1
        replace hbx := Mr.hid hbx
        replace hBB := Mr.hid hBB
        go_wp2_with (go_at_call 14; refine (SM.out _).mono ?_)
        clear SM
        rintro e w2 ⟨rfl, B2⟩
        have hbx2 : w2.heap[w.heap.size]? = some (.cells #[.int .i64 a0, .int .i64 a1, .int .i64 a2, .int .i64 a3, .int .i64 a4, .int .i64 a5, .int .i64 a6] 23 (0, 0)) := (B2.block _ lb).trans hbx.out
        have BB2 : Below w.heap.size w w2 := hBB.out.trans (B2.mono hBB.out.size)
        have k0 := cell_blk hbx2 0
        have k1 := cell_blk hbx2 1
        have k2 := cell_blk hbx2 2
        have k3 := cell_blk hbx2 3
        have k4 := cell_blk hbx2 4
        have k5 := cell_blk hbx2 5
        have k6 := cell_blk hbx2 6
        have fz : ∀ k, w2.frozen? ⟨w.heap.size, k, none⟩ = false := fun k => by simp [World.frozen?, hbx2]
        have l2 := (Array.getElem?_eq_some_iff.1 hbx2).1
        have R2 := Mr.hid (And.intro hbx2 BB2)
        clear B2 hbx2 BB2 hbx hBB
        go_wp2
        go_meet
        case rel =>
          obtain ⟨hbx2, BB2⟩ := R2.out
          exact ⟨2, 2, 3, 1, 0, 4, 1, by decide, (setBlk (setBlk (setBlk (setBlk (setBlk (setBlk (setBlk hbx2 0 (.int .i64 2)) 1 (.int .i64 2)) 2 (.int .i64 3)) 3 (.int .i64 1)) 4 (.int .i64 0)) 5 (.int .i64 4)) 6 (.int .i64 1)).trans rfl, (((((((BB2.setCell (p := ⟨w.heap.size, 0, none⟩) (Nat.le_refl _) (.int .i64 2)).setCell (p := ⟨w.heap.size, 1, none⟩) (Nat.le_refl _) (.int .i64 2)).setCell (p := ⟨w.heap.size, 2, none⟩) (Nat.le_refl _) (.int .i64 3)).setCell (p := ⟨w.heap.size, 3, none⟩) (Nat.le_refl _) (.int .i64 1)).setCell (p := ⟨w.heap.size, 4, none⟩) (Nat.le_refl _) (.int .i64 0)).setCell (p := ⟨w.heap.size, 5, none⟩) (Nat.le_refl _) (.int .i64 4)).setCell (p := ⟨w.heap.size, 6, none⟩) (Nat.le_refl _) (.int .i64 1))⟩
      | true =>
        replace hbx := Mr.hid hbx
        replace hBB := Mr.hid hBB
        go_wp2
        go_meet
        case rel => exact ⟨a0, a1, a2, a3, a4, a5, a6, hbad, hbx.out, hBB.out⟩
    case rest =>
      obtain ⟨x0, x1, x2, x3, x4, x5, x6, hcf, hbx, hBB⟩ := hcut
      replace hbx := Mr.hid hbx
      replace hBB := Mr.hid hBB
      clear SM
      go_upto_region 3 with fail
      go_upto_if 23 with fail
      go_cut [1] (fun s1 wq => ∃ n1 : Nat, s1 = .slice a n1 cap ∧ n1 ≤ n ∧ n1 ≤ 2000 ∧ wq.heap[w.heap.size]? = some (.cells #[.int .i64 x0, .int .i64 x1, .int .i64 x2, .int .i64 x3, .int .i64 x4, .int .i64 x5, .int .i64 x6] 23 (0, 0)) ∧ Below w.heap.size w wq)
      case first =>
        by_cases hcut : n ≤ 2000
        · have d0 : decide ((2000 : Int) < (n : Int)) = false := decide_eq_false (by omega)
          have d1 : ¬ (2000 : Int) < (n : Int) := by omega
          go_wp2
          go_meet
          case rel => exact ⟨n, rfl, Nat.le_refl _, hcut, hbx.out, hBB.out⟩
        · have d0 : decide ((2000 : Int) < (n : Int)) = true := decide_eq_true (by omega)
          have d1 : (2000 : Int) < (n : Int) := by omega
          have d2 : (2000 : Int) ≤ (cap : Int) := by omega
          go_wp2
          go_meet
          case rel => exact ⟨2000, rfl, by omega, Nat.le_refl _, hbx.out, hBB.out⟩
      case rest =>
        obtain ⟨n1, rfl, hn1, hn2, hbx3, hBB3⟩ := hcut
        clear hbx hBB
        have P3 := Mr.hid (PR.out x0 x1 x2 x3 x4 x5 x6 n1 hcf hn1 hn2 _ hBB3)
        have TX := Mr.hid (text_cut x0 x1 x2 x3 x4 x5 x6 n n1 ms hcf hln.out hm.out hn1 (Nat.le_trans hn2 (by decide)))
        have x0_ := cell_blk hbx3 0
        have x1_ := cell_blk hbx3 1
        have x2_ := cell_blk hbx3 2
        have x3_ := cell_blk hbx3 3
        have x4_ := cell_blk hbx3 4
        have x5_ := cell_blk hbx3 5
        have x6_ := cell_blk hbx3 6
        have l3 := (Array.getElem?_eq_some_iff.1 hbx3).1
        replace hbx3 := Mr.hid hbx3
        replace hBB3 := Mr.hid hBB3
        clear PR
        generalize hL : prints [x0, x1, x2, x3, x4, x5, x6] (ms.take n1) = L at *
        replace hL := Mr.hid hL
        go_upto_region 6 with (go_at_call 11; refine P3.out.mono ?_; clear P3; rintro e w4 ⟨rfl, B4⟩)
        have BB4 : Below w.heap.size w w4 := hBB3.out.trans (B4.mono hBB3.out.size)
        have hbx4 : Hid (w4.heap[w.heap.size]? = some (.cells #[.int .i64 x0, .int .i64 x1, .int .i64 x2, .int .i64 x3, .int .i64 x4, .int .i64 x5, .int .i64 x6] 23 (0, 0))) := (B4.block _ l3).trans hbx3.out
        have A4 := Mr.hid (AW.out w4 BB4)
        have l4 : w.heap.size < w4.heap.size := Nat.lt_of_lt_of_le l3 B4.size
        replace BB4 := Mr.hid BB4
        clear x0_ x1_ x2_ x3_ x4_ x5_ x6_ hbx3 hBB3 B4 AW l3
        go_upto_region 8 with (go_at_call 10; refine A4.out.mono ?_; clear A4; rintro e w5 ⟨rfl, B5⟩)
        have BB5 : Below w.heap.size w w5 := BB4.out.trans (B5.mono BB4.out.size)
        have hbx5 : w5.heap[w.heap.size]? = some (.cells #[.int .i64 x0, .int .i64 x1, .int .i64 x2, .int .i64 x3, .int .i64 x4, .int .i64 x5, .int .i64 x6] 23 (0, 0)) := (B5.block _ l4).trans hbx4.out
        clear BB4 B5 hbx4 l4
        obtain ⟨hLl, hcd, hm1, hl1⟩ := TX.out
        obtain ⟨i0, hi0, hz0, hz1, hz2⟩ := info_b2
        have hb5 := hbs.below BB5
        have hbxq := Mr.hid hbx5
        have l5 := (Array.getElem?_eq_some_iff.1 hbx5).1
        replace BB5 := Mr.hid BB5
        replace hb5 := Mr.hid hb5
        clear hbx5 hbs
        go_upto_if 40 with fail
        go_cut [2] (fun s2 wq => ∃ (b off n2 c2 : Nat) (b2 : List Nat), s2 = .slice (some ⟨b, off, none⟩) n2 c2 ∧ 0 < n2 ∧ b2.length = n2 ∧ (∀ x ∈ b2, x < 256) ∧ b < wq.heap.size ∧ (∀ (j x : Nat), b2[j]? = some x → wq.cell? ⟨b, off + j, none⟩ = some (.int .u8 (x : Int))) ∧ wq.heap[w.heap.size]? = some (.cells #[.int .i64 x0, .int .i64 x1, .int .i64 x2, .int .i64 x3, .int .i64 x4, .int .i64 x5, .int .i64 x6] 23 (0, 0)) ∧ Below w.heap.size w wq)
        case first =>
          by_cases hz : nb = 0
          · have k0 : ((nb : Int) == 0) = true := by rw [hz]; rfl
            have k1 : nb = 0 := hz
            go_wp2
            go_meet
            case rel => exact ⟨w5.heap.size, 0, 1, 1, [0], rfl, by decide, rfl, by simp, by simp, fun j x hx => (by
              match j, hx with
              | 0, hx => simp at hx; subst hx; simp), (Lib.alloc_old w5 _ _ l5).trans hbxq.out, BB5.out.alloc BB5.out.size _⟩
          · have k0 : ((nb : Int) == 0) = false := beq_eq_false_iff_ne.2 (by omega)
            obtain ⟨b, off, rfl, hbl, hbc⟩ := hb5.out.row.resolve_left (fun e => hz (by rw [hb5.out.len, e]; rfl))
            go_wp2
            go_meet
            case rel => exact ⟨b, off, nb, cb, bs, rfl, by omega, hb5.out.len.symm, hb5.out.bd, hbl, hbc, hbxq.out, BB5.out⟩
        case rest =>
          obtain ⟨b, off, n2, c2, b2, rfl, hn0, hb2l, hb2b, hbl, hbc, hbxw, hBBw⟩ := hcut
          obtain ⟨f, hf⟩ : ∃ f : Nat → Nat, ∀ k, f k = b2.getD (k % n2) 0 := ⟨_, fun _ => rfl⟩
          have hf256 : ∀ k, f k < 256 := fun k => by
            rw [hf, List.getD_eq_getElem?_getD, List.getElem?_eq_getElem (by rw [hb2l]; exact Nat.mod_lt _ hn0)]
            exact hb2b _ (List.getElem_mem _)
          have hfc : ∀ k, wc.cell? ⟨b, off + k % n2, none⟩ = some (.int .u8 ((f k : Nat) : Int)) := fun k => hbc _ _ (by
            rw [hf, List.getD_eq_getElem?_getD, List.getElem?_eq_getElem (by rw [hb2l]; exact Nat.mod_lt _ hn0)]; rfl)
          have hpx : (lgo f 0 L).length ≤ 1048576 → parseO (lgo f 0 L) = some (⟨x0, x1, x2, x3, x4, x5, x6⟩, ms.take n1) := fun hb => by
            have := freely ⟨x0, x1, x2, x3, x4, x5, x6⟩ (ms.take n1) f hcd hm1 (by omega) (by unfold cfL; dsimp only; rw [hL.out]; omega) (by unfold cfL; dsimp only; rw [hL.out]; exact hb)
            unfold cfL at this
            dsimp only at this
            rw [hL.out] at this
            exact this
          have Mo : Hid (∀ W, Below w.heap.size w W → MvAt W a n1 (ms.take n1)) := fun W hB => (hM'.out W hB).cut n1 hn1
          have PA := Mr.hid (fun (hb : (lgo f 0 L).length ≤ 1048576) W (hB : Below w.heap.size w W) => Parse_ok (lgo f 0 L) (⟨x0, x1, x2, x3, x4, x5, x6⟩, ms.take n1) W (V.out.env.below hB) (hpx hb))
          have SMV := Mr.hid (fun W a' c' (hB : Below w.heap.size w W) (h1 : MvAt W a' n1 (ms.take n1)) => sameMoves_eq (ms.take n1) a' a n1 c' cap W h1 (Mo.out W hB) (by omega))
          unfold PaA cfV at PA
          dsimp only at PA
          rw [hl1] at PA
          have hfold : (L.foldl (lst f) (0, [])).2 = lgo f 0 L := by rw [lst_fold]; rfl
          have hnil : Hid ((lgo f 0 L).length ≤ 1048576 → lgo f 0 L ≠ []) := fun hb e => by
            have := hpx hb
            rw [e] at this
            have h0 : parseO [] = none := by decide
            rw [h0] at this
            cases this
          have hszL : (⟨L.toArray⟩ : ByteArray).size = L.length := sz_list L
          obtain ⟨X, hX⟩ : ∃ X : ByteArray, X = ⟨L.toArray⟩ := ⟨_, rfl⟩
          have hget : Hid (∀ i (h : i < X.size) (h2 : i < L.length), X[i].toNat = L[i].toNat) := fun i h h2 => by subst hX; rfl
          rw [← hX] at hszL ⊢
          generalize hms1 : ms.take n1 = ms1 at *
          generalize hLG : lgo f 0 L = LG at *
          have FL := Mr.hid (fold_len f L)
          replace hszL := Mr.hid hszL
          replace hbxw := Mr.hid hbxw
          replace hBBw := Mr.hid hBBw
          replace hfold := Mr.hid hfold
          replace hf256 := Mr.hid hf256
          replace hfc := Mr.hid hfc
          clear TX hcd hm1 hL hM' hm V hln hcf hpx Mo hms1 hb5 hbxq BB5 hX hbc hb2b hf hb2l hLG
          generalize wc = w7 at *
          go_upto_region 13 with fail
          go_loopg [9, 10, 11] L.length (fun gk s9 s10 s11 wr => ∃ (i : Nat) (p : Nat × List UInt8) (v : Value), p = (L.take i).foldl (lst f) (0, []) ∧ s9 = .int .i64 (p.1 : Int) ∧ s10 = v ∧ s11 = .int .i64 (i : Int) ∧ i + gk = L.length ∧ Bw w7.heap.size wr v p.2 ∧ Below w7.heap.size w7 wr)
          case atStart => exact ⟨0, (0, []), _, rfl, rfl, rfl, rfl, by omega, World.ownsRowF_nil _ _ _ _, Below.refl _ _⟩
          case round =>
            obtain ⟨i, ⟨q, out⟩, v, hp, rfl, rfl, rfl, hi, hW, hBr⟩ := hrel
            dsimp only at hW ⊢
            by_cases hlt : i < L.length
            · have hsx : (i : Nat) < X.size := by rw [hszL.out]; exact hlt
              have hlI : (i : Int) < (X.size : Int) := by omega
              have dl : decide ((i : Int) < (X.size : Int)) = true := by simpa using hlI
              have hw : IntKind.i64.wrap ((i : Int) + 1) = (i : Int) + 1 := i64x _ (by omega) (by omega)
              have hgi := hget.out i hsx hlt
              obtain ⟨fl1, fl2⟩ := FL.out i (by omega)
              rw [← hp] at fl1 fl2
              dsimp only at fl1 fl2
              have hstep : Hid ((L.take (i + 1)).foldl (lst f) (0, []) = lst f (q, out) L[i]) := by
                show _ = _
                rw [List.take_succ_eq_append_getElem hlt, List.foldl_append, List.foldl_cons, List.foldl_nil, ← hp]
              have hwq : IntKind.i64.wrap ((q : Int) + 1) = (q : Int) + 1 := i64x _ (by omega) (by omega)
              obtain ⟨av, cv, rfl⟩ := hW.form
              have hbr : b < wr.heap.size := Nat.lt_of_lt_of_le hbl hBr.size
              have hfr := (hBr.cell (p := ⟨b, off + (q + 1) % n2, none⟩) hbl).trans (hfc.out (q + 1))
              obtain ⟨fx, hfx⟩ : ∃ y, f (q + 1) = y := ⟨_, rfl⟩
              have hfx6 := hf256.out (q + 1)
              rw [hfx] at hfr hfx6
              have hml := Nat.mod_lt (q + 1) hn0
              have hi' := Mr.hid hi
              replace hW := Mr.hid hW
              replace hBr := Mr.hid hBr
              by_cases h32 : L[i] = 32
              · have hx32 : X[i].toNat = 32 := by rw [hgi, h32]; rfl
                have kx : ((X[i].toNat : Int) == 32) = true := by rw [hx32]; rfl
                have hl2 : lst f (q, out) L[i] = (q + 1, out ++ fillB fx) := by unfold lst; rw [if_pos h32, hfx]
                rw [hl2] at hstep
                clear hl2 hi hgi h32 hp
                go_upto_region 19 with fail
                have eq1 : (q : Int) + 1 = ((q + 1 : Nat) : Int) := by omega
                rw [eq1]
                clear eq1
                generalize hQ1 : q + 1 = Q1 at *
                clear hQ1
                have hn0' : ((n2 : Int) == 0) = false := beq_eq_false_iff_ne.2 (by omega)
                have hn0'' : ¬ (n2 : Int) = 0 := by omega
                have hmlI : (Q1 : Int) % (n2 : Int) < (n2 : Int) := Int.emod_lt_of_pos _ (by omega)
                have hmlJ : 0 ≤ (Q1 : Int) % (n2 : Int) := Int.emod_nonneg _ (by omega)
                have FI := Mr.hid (fill_any fx hfx6 wr)
                have hfl := (fillB_len fx).2
                go_wp2_with (go_at_call 15; refine FI.out.mono ?_; clear FI)
                rintro e w9 ⟨rfl, rfl⟩
                go_wp2_with (at_builtin; refine wpList_append_ownF _ rfl _ _ 40 rfl w7.heap.size 5 i0 (.int .u8 0) 1 1 Tryz.underlying40 hi0 hz0 hz1 hz2 rfl (by decide) _ _ _ rfl (World.ownsRowF.alloc hW.out _) ⟨wr.heap.size, 0, none⟩ _ _ (Lib.byteCells (fillB fx)) rfl (by rw [bc_len, Nat.mul_one]) (bc_news _ _ _ rfl rfl 0) (bc_one _) (by unfold maxLen; omega) (by omega) (by simp; have := hBr.out.size; omega) ?_)
                intro v' w3 hown' hgr _
                have hW3 := Mr.hid (Bw.more (l := out) (k := fillB fx) hown')
                have hB3 : Hid (Below w7.heap.size w7 w3) := grow_below (hBr.out.alloc (Nat.le_trans (Nat.le_refl _) hBr.out.size) _) (Nat.le_refl _) (World.ownsRowF.alloc hW.out _) hgr
                clear hown' hgr hW hBr hfr
                go_wp2
                go_roundg (gk - 1)
                case measure => have := hi'.out; omega
                case rel => exact ⟨i + 1, (Q1, out ++ fillB fx), v', by rw [hstep.out], rfl, rfl, by simp, by have := hi'.out; omega, hW3.out, hB3.out⟩
              · have hx32 : ¬ X[i].toNat = 32 := by rw [hgi]; exact fun e => h32 (UInt8.toNat_inj.1 e)
                have kx : ((X[i].toNat : Int) == 32) = false := beq_eq_false_iff_ne.2 (by omega)
                by_cases h10 : L[i] = 10
                · have hx10 : X[i].toNat = 10 := by rw [hgi, h10]; rfl
                  have ky : ((X[i].toNat : Int) == 10) = true := by rw [hx10]; rfl
                  have hl2 : lst f (q, out) L[i] = (q + 1, out ++ tailB fx) := by unfold lst; rw [if_neg h32, if_pos h10, hfx]
                  rw [hl2] at hstep
                  clear hl2 hi hgi h32 h10 hp
                  go_upto_region 22 with fail
                  have eq1 : (q : Int) + 1 = ((q + 1 : Nat) : Int) := by omega
                  rw [eq1]
                  clear eq1
                  generalize hQ1 : q + 1 = Q1 at *
                  clear hQ1
                  have hn0' : ((n2 : Int) == 0) = false := beq_eq_false_iff_ne.2 (by omega)
                  have hn0'' : ¬ (n2 : Int) = 0 := by omega
                  have hmlI : (Q1 : Int) % (n2 : Int) < (n2 : Int) := Int.emod_lt_of_pos _ (by omega)
                  have hmlJ : 0 ≤ (Q1 : Int) % (n2 : Int) := Int.emod_nonneg _ (by omega)
                  have hfl := (fillB_len fx).2
                  have hf8 := fillB_len (fx / 8)
                  have h40 : out.length ≤ 40 * L.length := by omega
                  go_upto_if 84 with fail
                  clear hmlI hmlJ hfr hn0' hn0''
                  go_cut [10] (fun s10 wq => ∃ v, s10 = v ∧ Bw w7.heap.size wq v (out ++ (if fx % 3 = 0 then cmt else [])) ∧ Below w7.heap.size w7 wq)
                  case first =>
                    by_cases h3 : fx % 3 = 0
                    · have k3 : ((fx : Int) % 3 == 0) = true := by simp; omega
                      have k3' : ((fx : Int).tmod 3 == 0) = true := by rw [Int.tmod_eq_emod_of_nonneg (by omega)]; exact k3
                      go_wp2_with (at_builtin; refine Lib.wpList_append_own_stringF _ rfl _ _ 40 9 rfl w7.heap.size 5 i0 Tryz.underlying40 Tryz.underlying9 hi0 hz0 hz1 hz2 _ _ _ rfl hW.out ⟨#[32, 35, 32, 97, 32, 99, 111, 109, 109, 101, 110, 116, 32, 119, 105, 116, 104, 32, 48, 32, 46, 32, 55]⟩ rfl (by unfold maxLen; show _ + 23 ≤ _; omega) (by show _ + 23 ≤ _; omega) hBr.out.size ?_)
                      intro v' w3 hown' hgr _
                      have hW3 : Hid (Bw w7.heap.size w3 v' (out ++ cmt)) := Bw.more (l := out) (k := cmt) (by rw [strCells_byte] at hown'; exact hown')
                      have hB3 : Hid (Below w7.heap.size w7 w3) := grow_below hBr.out (Nat.le_refl _) hW.out hgr
                      clear hown' hgr
                      go_wp2
                      go_meet
                      case rel => exact ⟨v', rfl, by rw [if_pos h3]; exact hW3.out, hB3.out⟩
                    · have k3 : ((fx : Int) % 3 == 0) = false := beq_eq_false_iff_ne.2 (by omega)
                      have k3' : ((fx : Int).tmod 3 == 0) = false := by rw [Int.tmod_eq_emod_of_nonneg (by omega)]; exact k3
                      go_wp2
                      go_meet
                      case rel => exact ⟨_, rfl, by rw [if_neg h3, List.append_nil]; exact hW.out, hBr.out⟩
                  case rest =>
                    obtain ⟨v1, rfl, hW1, hB1⟩ := hcut
                    obtain ⟨o1, ho1⟩ : ∃ o, o = out ++ (if fx % 3 = 0 then cmt else []) := ⟨_, rfl⟩
                    rw [← ho1] at hW1
                    have hl1' : o1.length ≤ 40 * L.length + 23 := by rw [ho1, List.length_append]; split <;> (try simp [cmt]) <;> omega
                    replace ho1 := Mr.hid ho1
                    obtain ⟨a1v, c1v, rfl⟩ := hW1.form
                    replace hW1 := Mr.hid hW1
                    replace hB1 := Mr.hid hB1
                    clear hW hBr
                    generalize wc = w31 at *
                    go_upto_region 25 with fail
                    go_upto_if 89 with fail
                    go_cut [10] (fun s10 wq => ∃ v, s10 = v ∧ Bw w7.heap.size wq v (o1 ++ (if fx % 3 = 1 then fillB fx else [])) ∧ Below w7.heap.size w7 wq)
                    case first =>
                      by_cases h3 : fx % 3 = 1
                      · have k3 : ((fx : Int) % 3 == 1) = true := by simp; omega
                        have k3' : ((fx : Int).tmod 3 == 1) = true := by rw [Int.tmod_eq_emod_of_nonneg (by omega)]; exact k3
                        have FI := Mr.hid (fill_any fx hfx6 w31)
                        go_wp2_with (go_at_call 15; refine FI.out.mono ?_; clear FI)
                        rintro e w9 ⟨rfl, rfl⟩
                        go_wp2_with (at_builtin; refine wpList_append_ownF _ rfl _ _ 40 rfl w7.heap.size 5 i0 (.int .u8 0) 1 1 Tryz.underlying40 hi0 hz0 hz1 hz2 rfl (by decide) _ _ _ rfl (World.ownsRowF.alloc hW1.out _) ⟨w31.heap.size, 0, none⟩ _ _ (Lib.byteCells (fillB fx)) rfl (by rw [bc_len, Nat.mul_one]) (bc_news _ _ _ rfl rfl 0) (bc_one _) (by unfold maxLen; omega) (by omega) (by simp; have := hB1.out.size; omega) ?_)
                        intro v' w3 hown' hgr _
                        have hW3 := Mr.hid (Bw.more (l := o1) (k := fillB fx) hown')
                        have hB3 : Hid (Below w7.heap.size w7 w3) := grow_below (hB1.out.alloc hB1.out.size _) (Nat.le_refl _) (World.ownsRowF.alloc hW1.out _) hgr
                        clear hown' hgr
                        go_wp2
                        go_meet
                        case rel => exact ⟨v', rfl, by rw [if_pos h3]; exact hW3.out, hB3.out⟩
                      · have k3 : ((fx : Int) % 3 == 1) = false := beq_eq_false_iff_ne.2 (by omega)
                        have k3' : ((fx : Int).tmod 3 == 1) = false := by rw [Int.tmod_eq_emod_of_nonneg (by omega)]; exact k3
                        go_wp2
                        go_meet
                        case rel => exact ⟨_, rfl, by rw [if_neg h3, List.append_nil]; exact hW1.out, hB1.out⟩
                    case rest =>
                      obtain ⟨v2, rfl, hW2, hB2⟩ := hcut
                      obtain ⟨o2, ho2⟩ : ∃ o, o = o1 ++ (if fx % 3 = 1 then fillB fx else []) := ⟨_, rfl⟩
                      rw [← ho2] at hW2
                      have hl2' : o2.length ≤ 40 * L.length + 26 := by rw [ho2, List.length_append]; split <;> (try simp) <;> omega
                      replace ho2 := Mr.hid ho2
                      obtain ⟨a2v, c2v, rfl⟩ := hW2.form
                      replace hW2 := Mr.hid hW2
                      replace hB2 := Mr.hid hB2
                      clear hW1 hB1
                      generalize wc = w32 at *
                      go_wp2_with (at_builtin; refine wpList_append_ownF _ rfl _ _ 40 rfl w7.heap.size 5 i0 (.int .u8 0) 1 1 Tryz.underlying40 hi0 hz0 hz1 hz2 rfl (by decide) _ _ _ rfl (World.ownsRowF.alloc hW2.out _) ⟨w32.heap.size, 0, none⟩ _ _ (Lib.byteCells [10]) rfl rfl (bc_news _ _ _ rfl rfl 0) (bc_one _) (by unfold maxLen; omega) (by omega) (by simp; have := hB2.out.size; omega) ?_)
                      intro v3 w33 hown' hgr _
                      have hW3 := Bw.more (l := o2) (k := [10]) hown'
                      have hB3 : Hid (Below w7.heap.size w7 w33) := grow_below (hB2.out.alloc hB2.out.size _) (Nat.le_refl _) (World.ownsRowF.alloc hW2.out _) hgr
                      clear hown' hgr hW2 hB2
                      obtain ⟨a3v, c3v, rfl⟩ := hW3.form
                      replace hW3 := Mr.hid hW3
                      go_upto_region 28 with fail
                      go_upto_if 99 with fail
                      go_cut [10] (fun s10 wq => ∃ v, s10 = v ∧ Bw w7.heap.size wq v (o2 ++ [10] ++ (if fx % 4 = 0 then exB else [])) ∧ Below w7.heap.size w7 wq)
                      case first =>
                        by_cases h3 : fx % 4 = 0
                        · have k3 : ((fx : Int) % 4 == 0) = true := by simp; omega
                          have k3' : ((fx : Int).tmod 4 == 0) = true := by rw [Int.tmod_eq_emod_of_nonneg (by omega)]; exact k3
                          go_wp2_with (at_builtin; refine Lib.wpList_append_own_stringF _ rfl _ _ 40 9 rfl w7.heap.size 5 i0 Tryz.underlying40 Tryz.underlying9 hi0 hz0 hz1 hz2 _ _ _ rfl hW3.out ⟨#[9, 35, 10, 13, 10, 10]⟩ rfl (by unfold maxLen; rw [List.length_append]; show _ + 1 + 6 ≤ _; omega) (by rw [List.length_append]; show _ + 1 + 6 ≤ _; omega) hB3.out.size ?_)
                          intro v' w3 hown' hgr _
                          have hW4 : Hid (Bw w7.heap.size w3 v' (o2 ++ [10] ++ exB)) := Bw.more (l := o2 ++ [10]) (k := exB) (by rw [strCells_byte] at hown'; rw [show (o2 ++ ([10] : List UInt8)).length = o2.length + 1 by simp]; exact hown')
                          have hB4 : Hid (Below w7.heap.size w7 w3) := grow_below hB3.out (Nat.le_refl _) hW3.out (by rw [show (o2 ++ ([10] : List UInt8)).length = o2.length + 1 by simp]; exact hgr)
                          clear hown' hgr
                          go_wp2
                          go_meet
                          case rel => exact ⟨v', rfl, by rw [if_pos h3]; exact hW4.out, hB4.out⟩
                        · have k3 : ((fx : Int) % 4 == 0) = false := beq_eq_false_iff_ne.2 (by omega)
                          have k3' : ((fx : Int).tmod 4 == 0) = false := by rw [Int.tmod_eq_emod_of_nonneg (by omega)]; exact k3
                          go_wp2
                          go_meet
                          case rel => exact ⟨_, rfl, by rw [if_neg h3, List.append_nil]; exact hW3.out, hB3.out⟩
                      case rest =>
                        obtain ⟨v4, rfl, hW4, hB4⟩ := hcut
                        obtain ⟨o4, ho4⟩ : ∃ o, o = o2 ++ [10] ++ (if fx % 4 = 0 then exB else []) := ⟨_, rfl⟩
                        rw [← ho4] at hW4
                        have hl4' : o4.length ≤ 40 * L.length + 40 := by rw [ho4, List.length_append]; split <;> (try simp [exB]) <;> omega
                        have hfin : Hid (out ++ tailB fx = o4 ++ (fillB (fx / 8)).drop 1) := by
                          show _ = _
                          rw [ho4, ho2.out, ho1.out]
                          unfold tailB trl
                          by_cases q0 : fx % 3 = 0
                          · have q1 : ¬ fx % 3 = 1 := by omega
                            simp [q0]
                          · by_cases q1 : fx % 3 = 1
                            · simp [q0, q1]
                            · simp [q0, q1]
                        clear ho4 ho2 ho1
                        obtain ⟨a4v, c4v, rfl⟩ := hW4.form
                        replace hW4 := Mr.hid hW4
                        replace hB4 := Mr.hid hB4
                        clear hW3 hB3
                        generalize wc = w34 at *
                        have e8 : ((fx / 8 : Nat) : Int) = (fx : Int) / 8 := by simp
                        have F8 := Mr.hid (fill_any (fx / 8) (by omega) w34)
                        obtain ⟨F, hF⟩ : ∃ F, fillB (fx / 8) = F := ⟨_, rfl⟩
                        rw [hF] at F8 hf8 hfin
                        rw [e8] at F8
                        clear hF
                        rcases F with _ | ⟨c1, _ | ⟨c2, _ | ⟨c3, _ | ⟨c4, F⟩⟩⟩⟩
                        · simp at hf8
                        · go_wp2_with (go_at_call 15; refine F8.out.mono ?_; clear F8)
                          rintro e w9 ⟨rfl, rfl⟩
                          go_wp2_with (at_builtin; refine wpList_append_ownF _ rfl _ _ 40 rfl w7.heap.size 5 i0 (.int .u8 0) 1 1 Tryz.underlying40 hi0 hz0 hz1 hz2 rfl (by decide) _ _ _ rfl (World.ownsRowF.alloc hW4.out _) ⟨w34.heap.size, 0, none⟩ _ _ [] rfl rfl (by intro j u hj; simp at hj) (by intro u hu; simp at hu) (by unfold maxLen; omega) (by omega) (by simp; have := hB4.out.size; omega) ?_)
                          intro v' w3 hown' hgr _
                          have hW5 : Hid (Bw w7.heap.size w3 v' (o4 ++ [])) := Bw.more (l := o4) (k := []) (by simpa [Lib.byteCells] using hown')
                          have hB5 : Hid (Below w7.heap.size w7 w3) := grow_below (hB4.out.alloc hB4.out.size _) (Nat.le_refl _) (World.ownsRowF.alloc hW4.out _) hgr
                          clear hown' hgr
                          go_wp2
                          go_roundg (gk - 1)
                          case measure => have := hi'.out; omega
                          case rel => exact ⟨i + 1, (Q1, o4 ++ []), v', by rw [hstep.out, hfin.out]; rfl, rfl, rfl, by simp, by have := hi'.out; omega, hW5.out, hB5.out⟩
                        · go_wp2_with (go_at_call 15; refine F8.out.mono ?_; clear F8)
                          rintro e w9 ⟨rfl, rfl⟩
                          go_wp2_with (at_builtin; refine wpList_append_ownF _ rfl _ _ 40 rfl w7.heap.size 5 i0 (.int .u8 0) 1 1 Tryz.underlying40 hi0 hz0 hz1 hz2 rfl (by decide) _ _ _ rfl (World.ownsRowF.alloc hW4.out _) ⟨w34.heap.size, 1, none⟩ _ _ ((Lib.byteCells [c1, c2]).drop 1) rfl rfl (bc_news _ [c1, c2] _ rfl rfl 1) (fun u hu => bc_one [c1, c2] u (List.mem_of_mem_drop hu)) (by unfold maxLen; omega) (by omega) (by simp; have := hB4.out.size; omega) ?_)
                          intro v' w3 hown' hgr _
                          have hW5 : Hid (Bw w7.heap.size w3 v' (o4 ++ [c2])) := Bw.more (l := o4) (k := [c2]) hown'
                          have hB5 : Hid (Below w7.heap.size w7 w3) := grow_below (hB4.out.alloc hB4.out.size _) (Nat.le_refl _) (World.ownsRowF.alloc hW4.out _) hgr
                          clear hown' hgr
                          go_wp2
                          go_roundg (gk - 1)
                          case measure => have := hi'.out; omega
                          case rel => exact ⟨i + 1, (Q1, o4 ++ [c2]), v', by rw [hstep.out, hfin.out]; rfl, rfl, rfl, by simp, by have := hi'.out; omega, hW5.out, hB5.out⟩
                        · go_wp2_with (go_at_call 15; refine F8.out.mono ?_; clear F8)
                          rintro e w9 ⟨rfl, rfl⟩
                          go_wp2_with (at_builtin; refine wpList_append_ownF _ rfl _ _ 40 rfl w7.heap.size 5 i0 (.int .u8 0) 1 1 Tryz.underlying40 hi0 hz0 hz1 hz2 rfl (by decide) _ _ _ rfl (World.ownsRowF.alloc hW4.out _) ⟨w34.heap.size, 1, none⟩ _ _ ((Lib.byteCells [c1, c2, c3]).drop 1) rfl rfl (bc_news _ [c1, c2, c3] _ rfl rfl 1) (fun u hu => bc_one [c1, c2, c3] u (List.mem_of_mem_drop hu)) (by unfold maxLen; omega) (by omega) (by simp; have := hB4.out.size; omega) ?_)
                          intro v' w3 hown' hgr _
                          have hW5 : Hid (Bw w7.heap.size w3 v' (o4 ++ [c2, c3])) := Bw.more (l := o4) (k := [c2, c3]) hown'
                          have hB5 : Hid (Below w7.heap.size w7 w3) := grow_below (hB4.out.alloc hB4.out.size _) (Nat.le_refl _) (World.ownsRowF.alloc hW4.out _) hgr
                          clear hown' hgr
                          go_wp2
                          go_roundg (gk - 1)
                          case measure => have := hi'.out; omega
                          case rel => exact ⟨i + 1, (Q1, o4 ++ [c2, c3]), v', by rw [hstep.out, hfin.out]; rfl, rfl, rfl, by simp, by have := hi'.out; omega, hW5.out, hB5.out⟩
                        · simp at hf8
                · have hx10 : ¬ X[i].toNat = 10 := by rw [hgi]; exact fun e => h10 (UInt8.toNat_inj.1 e)
                  have ky : ((X[i].toNat : Int) == 10) = false := beq_eq_false_iff_ne.2 (by omega)
                  have hl2 : lst f (q, out) L[i] = (q, out ++ [L[i]]) := by unfold lst; rw [if_neg h32, if_neg h10]
                  rw [hl2] at hstep
                  have hci : Hid (Lib.byteCells [L[i]] = [.int .u8 (X[i].toNat : Int)]) := by show _ = _; rw [hgi]; rfl
                  generalize L[i] = ch at *
                  clear hl2 hi hgi h32 h10 hp
                  go_wp2_with (at_builtin; refine wpList_append_ownF _ rfl _ _ 40 rfl w7.heap.size 5 i0 (.int .u8 0) 1 1 Tryz.underlying40 hi0 hz0 hz1 hz2 rfl (by decide) _ _ _ rfl (World.ownsRowF.alloc hW.out _) ⟨wr.heap.size, 0, none⟩ _ _ [.int .u8 (X[i].toNat : Int)] rfl rfl (by intro j u hj; match j, hj with | 0, hj => (simp at hj; subst hj; simp [Addr.add])) (by intro u hu; simp at hu; subst hu; rfl) (by unfold maxLen; omega) (by omega) (by simp; have := hBr.out.size; omega) ?_)
                  intro v' w3 hown' hgr _
                  have hW3 : Hid (Bw w7.heap.size w3 v' (out ++ [ch])) := Bw.more (l := out) (k := [ch]) (by rw [hci.out]; exact hown')
                  have hB3 : Hid (Below w7.heap.size w7 w3) := grow_below (hBr.out.alloc (Nat.le_trans (Nat.le_refl _) hBr.out.size) _) (Nat.le_refl _) (World.ownsRowF.alloc hW.out _) hgr
                  clear hown' hgr hW hBr hfr
                  go_wp2
                  go_roundg (gk - 1)
                  case measure => have := hi'.out; omega
                  case rel => exact ⟨i + 1, (q, out ++ [ch]), v', by rw [hstep.out], rfl, rfl, by simp, by have := hi'.out; omega, hW3.out, hB3.out⟩
            · have hie : i = L.length := by omega
              have hix : (i : Int) = (X.size : Int) := by have := hszL.out; omega
              have dl : decide ((i : Int) < (X.size : Int)) = false := decide_eq_false (by omega)
              have dn0 : ¬ i < X.size := by have := hszL.out; omega
              have dn : decide (i < X.size) = false := decide_eq_false dn0
              have hout : out = LG := by rw [hie, List.take_length] at hp; have := hfold.out; rw [← hp] at this; exact this
              subst hout
              have BBr : Below w.heap.size w wr := hBBw.out.trans (hBr.mono hBBw.out.size)
              have hlw : w.heap.size < w7.heap.size := (Array.getElem?_eq_some_iff.1 hbxw.out).1
              have hbxr : wr.heap[w.heap.size]? = some (.cells #[.int .i64 x0, .int .i64 x1, .int .i64 x2, .int .i64 x3, .int .i64 x4, .int .i64 x5, .int .i64 x6] 23 (0, 0)) := (hBr.block _ hlw).trans hbxw.out
              clear hp hix
              by_cases hbig : out.length ≤ 1048576
              · have d1 : ¬ (1048576 : Int) < (out.length : Int) := by omega
                have d2 : decide ((1048576 : Int) < (out.length : Int)) = false := decide_eq_false d1
                have d3 : ¬ 1048576 < out.length := by omega
                have hne : out ≠ [] := hnil.out hbig
                obtain ⟨av, cap9, rfl⟩ := hW.form
                obtain ⟨g, hgl9, rfl, hcc⟩ : ∃ g, g < wr.heap.size ∧ av = some ⟨g, 0, none⟩ ∧ ∀ j u, (Lib.byteCells out)[j]? = some u → wr.cell? ((⟨g, 0, none⟩ : Addr).add j) = some u := by
                  rcases hW.2 with ⟨_, h0⟩ | ⟨g, cap8, cur, fz, hv, _, hgg, _⟩
                  · exact absurd (List.eq_nil_of_length_eq_zero h0) hne
                  · injection hv with h1 h2 h3
                    exact ⟨g, (Array.getElem?_eq_some_iff.1 hgg).1, h1, World.ownsRowF.cells hW (by rw [h1]; rfl)⟩
                have hcv := run_convert_bytes_back (P := Tryz.prog) wr 40 9 5 ⟨g, 0, none⟩ cap9 out Tryz.underlying40 Tryz.underlying5 Tryz.underlying9 (fun j hj => hcc j _ (by simp [Lib.byteCells, List.getElem?_eq_getElem hj]))
                have P9 := Mr.hid (PA.out hbig wr BBr)
                generalize (⟨out.toArray⟩ : ByteArray) = Z at *
                have lr := (Array.getElem?_eq_some_iff.1 hbxr).1
                replace hbxr := Mr.hid hbxr
                replace BBr := Mr.hid BBr
                clear hcc hW hBr hne PA hi hie hfold
                go_upto_region 34 with (go_at_call 9; refine P9.out.mono ?_; clear P9; rintro e w40 ⟨vt, rfl, hvt, B40⟩)
                obtain ⟨at_, ct, rfl, hct⟩ := hvt.form
                have BB41 : Below w.heap.size w (w40.alloc (.cells #[.int .i64 x0, .int .i64 x1, .int .i64 x2, .int .i64 x3, .int .i64 x4, .int .i64 x5, .int .i64 x6] 23)) := (BBr.out.trans (B40.mono BBr.out.size)).alloc (Nat.le_trans BBr.out.size B40.size) _
                have hT41 := hvt.alloc (.cells #[.int .i64 x0, .int .i64 x1, .int .i64 x2, .int .i64 x3, .int .i64 x4, .int .i64 x5, .int .i64 x6] 23)
                have hbx41 : (w40.alloc (.cells #[.int .i64 x0, .int .i64 x1, .int .i64 x2, .int .i64 x3, .int .i64 x4, .int .i64 x5, .int .i64 x6] 23)).heap[w.heap.size]? = some (.cells #[.int .i64 x0, .int .i64 x1, .int .i64 x2, .int .i64 x3, .int .i64 x4, .int .i64 x5, .int .i64 x6] 23 (0, 0)) := (Lib.alloc_old w40 _ _ (Nat.lt_of_lt_of_le lr B40.size)).trans ((B40.block _ lr).trans hbxr.out)
                have hby41 : (w40.alloc (.cells #[.int .i64 x0, .int .i64 x1, .int .i64 x2, .int .i64 x3, .int .i64 x4, .int .i64 x5, .int .i64 x6] 23)).heap[w40.heap.size]? = some (.cells #[.int .i64 x0, .int .i64 x1, .int .i64 x2, .int .i64 x3, .int .i64 x4, .int .i64 x5, .int .i64 x6] 23 (0, 0)) := new_at _ _ _ rfl
                have S41 := Mr.hid (SMV.out _ at_ ct BB41 (MvAt.of hT41))
                have y0 := cell_blk hby41 0
                have y1 := cell_blk hby41 1
                have y2 := cell_blk hby41 2
                have y3 := cell_blk hby41 3
                have y4 := cell_blk hby41 4
                have y5 := cell_blk hby41 5
                have y6 := cell_blk hby41 6
                have z0 := cell_blk hbx41 0
                have z1 := cell_blk hbx41 1
                have z2 := cell_blk hbx41 2
                have z3 := cell_blk hbx41 3
                have z4 := cell_blk hbx41 4
                have z5 := cell_blk hbx41 5
                have z6 := cell_blk hbx41 6
                have ly := (Array.getElem?_eq_some_iff.1 hby41).1
                have lx := (Array.getElem?_eq_some_iff.1 hbx41).1
                replace BB41 := Mr.hid BB41
                clear hvt B40 hT41 hbx41 hby41 hcv hbxr BBr SMV
                generalize w40.heap.size = b13 at *
                generalize w40.alloc (.cells #[.int .i64 x0, .int .i64 x1, .int .i64 x2, .int .i64 x3, .int .i64 x4, .int .i64 x5, .int .i64 x6] 23) = w41 at *
                go_wp2_with (go_at_call 12; refine S41.out.mono ?_; clear S41; rintro e w42 ⟨rfl, B42⟩; replace B42 := Mr.hid B42)
                go_ret
                exact ⟨by simp, BB41.out.trans (B42.out.mono BB41.out.size)⟩
              · have d1 : (1048576 : Int) < (out.length : Int) := by omega
                have d2 : decide ((1048576 : Int) < (out.length : Int)) = true := decide_eq_true d1
                have d3 : 1048576 < out.length := by omega
                obtain ⟨av, cv, rfl⟩ := hW.form
                replace BBr := Mr.hid BBr
                clear hW hBr hbxr PA hi hie hfold
                go_wp2
                go_ret
                exact ⟨rfl, BBr.out⟩
theorem law_freely (c0 c1 c2 c3 c4 c5 c6 : Int) (a : Option Addr) (n cap : Nat) (ms : List Mv) (ab : Option Addr) (nb cb : Nat) (bs : List Nat) (w : World) (hw : (Lit.int .i64 c0).wf = true ∧ (Lit.int .i64 c1).wf = true ∧ (Lit.int .i64 c2).wf = true ∧ (Lit.int .i64 c3).wf = true ∧ (Lit.int .i64 c4).wf = true ∧ (Lit.int .i64 c5).wf = true ∧ (Lit.int .i64 c6).wf = true) (hM : MvAt w a n ms) (hcap : n ≤ cap) (hm : ∀ m ∈ ms, MvB m) (hbs : ByAt w ab nb bs) (hcb : nb ≤ cb) (hcm : cb ≤ maxLen) (V : EnvX w) :
    Calls Tryz.prog 6 #[.agg #[.int .i64 c0, .int .i64 c1, .int .i64 c2, .int .i64 c3, .int .i64 c4, .int .i64 c5, .int .i64 c6], .slice a n cap, .slice ab nb cb] w fun e w' => e = .returned (.bool true) ∧ Below w.heap.size w w' :=
  scriptFreely_any c0 c1 c2 c3 c4 c5 c6 a n cap ms ab nb cb bs w hbs V hM hcap hm
end Go.Proofs.YtfhkgeoionkonaaGreatDoor.Sc
