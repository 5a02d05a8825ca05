import Derived.Test.YtcomelbphdjnnaaGreatDoorJ27
import Derived.Test.YtcomelbphdjnnaaGreatDoorJ28
import Derived.Test.YtcomelbphdjnnaaGreatDoorJ30
import Derived.BigRegion
import Derived.Test.YtcomelbphdjnnaaGreatDoorJ26
/-
  SCRIPT: the document's machine.
-/
namespace Go.Proofs.YtcomelbphdjnnaaGreatDoor.Sc
open Go.RowKit Mr
set_option linter.unusedVariables false
set_option linter.unusedSimpArgs false
set_option maxRecDepth 100000
def nmV : Array Value := #[.string ⟨#[116, 104, 114, 101, 97, 100, 115]⟩, .string ⟨#[114, 101, 99, 111, 114, 100, 115]⟩, .string ⟨#[104, 97, 122, 97, 114, 100, 115]⟩, .string ⟨#[114, 101, 116, 105, 114, 101]⟩, .string ⟨#[99, 97, 99, 104, 101]⟩, .string ⟨#[115, 108, 111, 116, 115]⟩, .string ⟨#[98, 117, 99, 107, 101, 116, 115]⟩]
theorem nmV_at (i : Nat) (hi : i < 7) : nmV[i]? = some (.string ⟨(nmA.getD i []).toArray⟩) := by
  match i, hi with
  | 0, _ => rfl
  | 1, _ => rfl
  | 2, _ => rfl
  | 3, _ => rfl
  | 4, _ => rfl
  | 5, _ => rfl
  | 6, _ => rfl
def z7A : Array Value := #[.int .i64 0, .int .i64 0, .int .i64 0, .int .i64 0, .int .i64 0, .int .i64 0, .int .i64 0]
theorem WsAt.at {W : World} {a : Option Addr} {n : Nat} {ws : List (List UInt8)} (h : WsAt W a n ws) (h0 : 0 < n) : ∃ g, a = some ⟨g, 0, none⟩ ∧ g < W.heap.size ∧ ∀ j, j < n → W.cell? ⟨g, j, none⟩ = some (.string ⟨(ws.getD j []).toArray⟩) := by
  have hn := h.1
  obtain ⟨g, rfl, hg, hc⟩ := h.2.resolve_left (by intro e; rw [e] at hn; simp at hn; omega)
  refine ⟨g, rfl, hg, fun j hj => hc j _ ?_⟩
  rw [List.getD_eq_getElem?_getD, List.getElem?_eq_getElem (by omega)]; rfl
theorem toList_mk (l : List UInt8) : (⟨l.toArray⟩ : ByteArray).toList = l := by rw [ByteArray.toList_eq]
/-- What machine answers. -/
def McA (w : World) (ws : List (List UInt8)) (e : Ending) (w' : World) : Prop := e = .returned (.tuple #[cfV (if macE ws = 0 then cfN (numsL ws) else cfZ), .int .i64 (macE ws)]) ∧ Below w.heap.size w w'
set_option maxHeartbeats 8000000 in
theorem mach_170 (ws : List (List UInt8)) (a : Option Addr) (n c : Nat) (w : World) (hW : WsAt w a n ws) (hg : ∀ x ∈ ws, Gw x) (hb : n ≠ 15 ∨ ws.getD 0 [] ≠ mcW) :
    Calls Tryz.prog 24 #[.slice a n c] w (McA w ws) := by
  have hE : macE ws = 170 := by
    rcases hb with h | h
    · exact mac_no_len hg (by rw [← hW.1]; exact h)
    · exact mac_no_head hg h
  unfold McA
  rw [hE, if_neg (by decide)]
  unfold cfV cfZ
  dsimp only
  have B0 : Hid (Below w.heap.size w ((w.alloc (.cells z7A 23)).alloc (.cells nmV 9))) := ((Below.refl _ _).alloc (Nat.le_refl _) _).alloc (by simp) _
  by_cases h15 : n = 15
  · subst h15
    obtain ⟨g, rfl, hg, hc⟩ := hW.at (by decide)
    have c0 := hc 0 (by decide)
    have hne : ws.getD 0 [] ≠ mcW := hb.resolve_left (fun h => h rfl)
    generalize hX : (⟨(ws.getD 0 []).toArray⟩ : ByteArray) = X at *
    have k1 : ¬ X.toList = [109, 97, 99, 104, 105, 110, 101] := by rw [← hX, toList_mk]; exact hne
    have k2 : (X.toList == [109, 97, 99, 104, 105, 110, 101]) = false := beq_eq_false_iff_ne.2 k1
    clear hW hc hX hne hb hE
    unfold z7A nmV at B0
    go_enter Tryz.func24, Tryz.ntmps24
    go_wp2
    refine bodyPost_ret (v := .tuple #[.agg #[.int .i64 0, .int .i64 0, .int .i64 0, .int .i64 0, .int .i64 0, .int .i64 0, .int .i64 0], .int .i64 170]) (by simp [results, Tryz.results24, go_sem, *]) rfl ⟨rfl, B0.out⟩
  · have k1 : ((n : Int) != 15) = true := bne_iff_ne.2 (by omega)
    have k2 : ¬ (n : Int) = 15 := by omega
    clear hW hb hE
    unfold z7A nmV at B0
    go_enter Tryz.func24, Tryz.ntmps24
    go_wp2
    refine bodyPost_ret (v := .tuple #[.agg #[.int .i64 0, .int .i64 0, .int .i64 0, .int .i64 0, .int .i64 0, .int .i64 0, .int .i64 0], .int .i64 170]) (by simp [results, Tryz.results24, go_sem, *]) rfl ⟨rfl, B0.out⟩
/-- The two blocks that machine makes first. -/
structure Mk (w wr : World) : Prop where
  box : wr.heap[w.heap.size]? = some (.cells z7A 23 (0, 0))
  nms : wr.heap[w.heap.size + 1]? = some (.cells nmV 9 (0, 0))
  bel : Below w.heap.size w wr
theorem Mk.lt {w wr : World} (h : Mk w wr) : w.heap.size + 2 ≤ wr.heap.size := by have := (Array.getElem?_eq_some_iff.1 h.nms).1; omega
theorem Mk.next {w wr wq : World} (h : Mk w wr) (hB : Below (w.heap.size + 2) wr wq) : Mk w wq :=
  ⟨(hB.block _ (by omega)).trans h.box, (hB.block _ (by omega)).trans h.nms, h.bel.trans (hB.mono (by omega))⟩
theorem ts_len {ws : List (List UInt8)} (hsz : ∀ x ∈ ws, x.length ≤ 1048576) (j : Nat) : (ws.getD j []).length ≤ 1048576 := by
  rw [List.getD_eq_getElem?_getD]
  cases h : ws[j]? with
  | none => simp
  | some x => exact hsz x (List.mem_of_getElem? h)
theorem ts_sz {ws : List (List UInt8)} (hsz : ∀ x ∈ ws, x.length ≤ 1048576) : ∀ x ∈ tsL ws, x.length ≤ 1048576 := by
  intro x hx
  obtain ⟨i, hi⟩ := List.getElem?_of_mem hx
  have h7 : i < 7 := (List.getElem?_eq_some_iff.1 hi).1
  rw [tsL_at ws i h7] at hi
  cases hi
  exact ts_len hsz _
set_option maxHeartbeats 16000000 in
theorem mach_any (ws : List (List UInt8)) (a : Option Addr) (n c : Nat) (w : World) (hW : WsAt w a n ws) (hg : ∀ x ∈ ws, Gw x) (hsz : ∀ x ∈ ws, x.length ≤ 1048576) :
    Calls Tryz.prog 24 #[.slice a n c] w (McA w ws) := by
  by_cases hbad : n ≠ 15 ∨ ws.getD 0 [] ≠ mcW
  · exact mach_170 ws a n c w hW hg hbad
  obtain ⟨h15, h0⟩ : n = 15 ∧ ws.getD 0 [] = mcW := by
    constructor
    · exact Classical.byContradiction fun h => hbad (.inl h)
    · exact Classical.byContradiction fun h => hbad (.inr h)
  subst h15
  clear hbad
  obtain ⟨g, rfl, hgl, hc⟩ := hW.at (by decide)
  have hl15 := Mr.hid hW.1
  have c0 := hc 0 (by decide)
  rw [h0] at c0
  have k1 : (⟨mcW.toArray⟩ : ByteArray) = ⟨#[109, 97, 99, 104, 105, 110, 101]⟩ := rfl
  rw [k1] at c0
  have FL : Hid (∀ W (v : Value) (av : Option Addr) (cv : Nat), v = .slice av 7 cv → Has W (fun k => w.heap.size + 2 ≤ k) 9 1 v 7 (strs (tsL ws)) → Calls Tryz.prog 38 #[v] W fun e w' => e = .returned (.int .i64 (fltL (tsL ws))) ∧ w' = W) := fun W v av cv e h => by
    subst e
    exact faults_any (tsL ws) av 7 cv W (WsO.of (WsAt.of h)) (by decide) (ts_sz hsz)
  have NB : Hid (∀ x ∈ tsL ws, ∀ W, Calls Tryz.prog 39 #[.string ⟨x.toArray⟩] W fun e w' => ∃ y : Int, e = .returned (.tuple #[.int .i64 y, .bool (numOk x).isSome]) ∧ ((numOk x).isSome = true → y = numV x) ∧ w' = W) := fun x hx W => by have := rNumber_any ⟨x.toArray⟩ W (by simp [ByteArray.size]; have := ts_sz hsz x hx; omega); simpa using this
  obtain ⟨si, hsi, hs0, hs1, hs2⟩ := info_s
  have hM0 : Mk w ((w.alloc (.cells z7A 23)).alloc (.cells nmV 9)) := ⟨(Lib.alloc_old _ _ _ (by simp)).trans (new_at _ _ _ rfl), new_at _ _ _ (by simp), ((Below.refl _ _).alloc (Nat.le_refl _) _).alloc (by simp) _⟩
  unfold z7A nmV at hM0
  replace hc := Mr.hid hc
  have YES := Mr.hid (fun hn => mac_yes hg (hl15.out).symm h0 hn)
  have NO := Mr.hid (fun i hi h => mac_no_name (ws := ws) hg i hi h)
  unfold McA
  obtain ⟨RV, hRV⟩ : ∃ R, cfV (if macE ws = 0 then cfN (numsL ws) else cfZ) = R := ⟨_, rfl⟩
  obtain ⟨ME, hME⟩ : ∃ M, macE ws = M := ⟨_, rfl⟩
  rw [hRV, hME]
  replace hRV := Mr.hid hRV
  replace hME := Mr.hid hME
  clear hW hg hsz k1 h0 hl15
  go_enter Tryz.func24, Tryz.ntmps24
  go_upto_region 6 with fail
  generalize (w.alloc (.cells #[.int .i64 0, .int .i64 0, .int .i64 0, .int .i64 0, .int .i64 0, .int .i64 0, .int .i64 0] 23)).alloc (.cells #[.string ⟨#[116, 104, 114, 101, 97, 100, 115]⟩, .string ⟨#[114, 101, 99, 111, 114, 100, 115]⟩, .string ⟨#[104, 97, 122, 97, 114, 100, 115]⟩, .string ⟨#[114, 101, 116, 105, 114, 101]⟩, .string ⟨#[99, 97, 99, 104, 101]⟩, .string ⟨#[115, 108, 111, 116, 115]⟩, .string ⟨#[98, 117, 99, 107, 101, 116, 115]⟩] 9) = w2 at *
  clear c0
  go_loopg [5, 6] 7 (fun gk s5 s6 wr => ∃ (v : Value) (i : Nat), s5 = v ∧ s6 = .int .i64 (i : Int) ∧ i + gk = 7 ∧ Has wr (fun k => w.heap.size + 2 ≤ k) 9 1 v i (strs ((tsL ws).take i)) ∧ (∀ j, j < i → ws.getD (1 + 2 * j) [] = nmA.getD j []) ∧ Mk w wr)
  case atStart => exact ⟨_, 0, rfl, rfl, by omega, Has.nil _ _ _ _, fun j hj => by omega, hM0⟩
  case round =>
    obtain ⟨v, i, rfl, rfl, hi, hh, hnm, hM⟩ := hrel
    obtain ⟨av, cv, rfl, hcv⟩ := hh.form
    clear hM0
    by_cases hlt : i < 7
    · have hcr : ∀ j, j < 15 → wr.cell? ⟨g, j, none⟩ = some (.string ⟨(ws.getD j []).toArray⟩) := fun j hj => (hM.bel.cell (p := ⟨g, j, none⟩) hgl).trans (hc.out j hj)
      obtain ⟨p, hp⟩ : ∃ p : Nat, p = 1 + 2 * i := ⟨_, rfl⟩
      obtain ⟨q, hq⟩ : ∃ q : Nat, q = 2 + 2 * i := ⟨_, rfl⟩
      have c1 := hcr p (by omega)
      have c2 := hcr q (by omega)
      have cn := (cell_blk hM.nms i).trans (nmV_at i hlt)
      have hts := tsL_at ws i hlt
      rw [← hq] at hts
      have m0 : IntKind.i64.wrap (2 * (i : Int)) = 2 * (i : Int) := i64x _ (by omega) (by omega)
      have m1 : IntKind.i64.wrap (1 + 2 * (i : Int)) = (p : Int) := (i64x _ (by omega) (by omega)).trans (by omega)
      have m2 : IntKind.i64.wrap (2 + 2 * (i : Int)) = (q : Int) := (i64x _ (by omega) (by omega)).trans (by omega)
      have hw : IntKind.i64.wrap ((i : Int) + 1) = (i : Int) + 1 := i64x _ (by omega) (by omega)
      have hlI : (i : Int) < 7 := by omega
      have dl : decide ((i : Int) < 7) = true := by simpa using hlI
      have hpI : (p : Int) < 15 := by omega
      have hqI : (q : Int) < 15 := by omega
      have hgw : g < wr.heap.size := Nat.lt_of_lt_of_le hgl hM.bel.size
      have hbw : w.heap.size + 1 < wr.heap.size := by have := hM.lt; omega
      have hi' := Mr.hid hi
      have hq2 : Hid (take_succ_of hts = take_succ_of hts) := rfl
      have htk := Mr.hid (take_succ_of hts)
      by_cases heq : ws.getD (1 + 2 * i) [] = nmA.getD i []
      · have hnm' : Hid (∀ j, j < i + 1 → ws.getD (1 + 2 * j) [] = nmA.getD j []) := fun j hj => by
          by_cases e : j = i
          · subst e; exact heq
          · exact hnm j (by omega)
        rw [hp, heq] at c1
        rw [← hp] at c1
        generalize (⟨(nmA.getD i []).toArray⟩ : ByteArray) = Y at *
        generalize hX2 : ws.getD q [] = x2 at *
        replace hM := Mr.hid hM
        replace hh := Mr.hid hh
        clear hnm heq hcr hts hi hp hq hq2 hX2
        go_upto_region 8 with fail
        go_quiet (fail)
        have hM6 : Hid (Mk w (wr.drewN nq)) := ⟨hM.out.box, hM.out.nms, hM.out.bel.trans ⟨rfl, rfl, rfl, Nat.le_refl _, fun _ _ => rfl⟩⟩
        have hh6 : Hid (Has (wr.drewN nq) (fun k => w.heap.size + 2 ≤ k) 9 1 (.slice av i cv) i (strs ((tsL ws).take i))) := hh.out.kept (fun _ _ => rfl) (fun k hk => (hh.out.lt k hk).1)
        have c2' : (wr.drewN nq).cell? ⟨g, q, none⟩ = some (.string ⟨x2.toArray⟩) := c2
        have hgw' : g < (wr.drewN nq).heap.size := hgw
        clear c1 cn c2 hgw hbw hM hh
        generalize wr.drewN nq = w6 at *
        go_wp2_with (at_builtin; refine wpList_append_has _ rfl _ _ 58 rfl (fun k => w.heap.size + 2 ≤ k) 9 si (.string ⟨#[]⟩) 1 16 Tryz.underlying58 hsi hs0 hs1 hs2 rfl _ _ _ rfl (hh6.out.alloc _) ⟨w6.heap.size, 0, none⟩ 1 1 [.string ⟨x2.toArray⟩] rfl rfl (newsOne _ _ _ rfl) (by intro u hu; simp at hu; subst hu; rfl) (by decide) (by unfold maxLen; omega) (by omega) (by have := hM6.out.lt; simp; omega) ?_; intro g2 cap2 w3 hh3 hgr hgg)
        have hB3 : Below (w.heap.size + 2) w6 w3 := ((Below.refl _ _).alloc hM6.out.lt _).grown hgr (by have := hM6.out.lt; simp; omega) (fun k hk => (hh6.out.lt k hk).1)
        have hM7 := Mr.hid (hM6.out.next hB3)
        have hh4 : Hid (Has w3 (fun k => w.heap.size + 2 ≤ k) 9 1 (.slice (some ⟨g2, 0, none⟩) (i + 1) cap2) (i + 1) (strs ((tsL ws).take (i + 1)))) := by
          show Has _ _ _ _ _ _ _
          have h2 : strs ((tsL ws).take (i + 1)) = strs ((tsL ws).take i) ++ [.string ⟨x2.toArray⟩] := by rw [htk.out]; simp [strs]
          rw [h2]
          exact hh3
        clear hh3 hgr hgg hB3 hh6 hM6 c2' hgw'
        go_wp2
        go_roundg (gk - 1)
        case measure => have := hi'.out; omega
        case rel => exact ⟨_, i + 1, rfl, by simp, by have := hi'.out; omega, hh4.out, hnm'.out, hM7.out⟩
      · have hE := NO.out i hlt heq
        have kne : ¬ (⟨(ws.getD p []).toArray⟩ : ByteArray).toList = (⟨(nmA.getD i []).toArray⟩ : ByteArray).toList := by rw [toList_mk, toList_mk, hp]; exact heq
        have kne2 : ((⟨(ws.getD p []).toArray⟩ : ByteArray).toList == (⟨(nmA.getD i []).toArray⟩ : ByteArray).toList) = false := beq_eq_false_iff_ne.2 kne
        generalize (⟨(nmA.getD i []).toArray⟩ : ByteArray) = Y at *
        generalize (⟨(ws.getD p []).toArray⟩ : ByteArray) = X at *
        replace hE := Mr.hid hE
        have b0 := hM.box
        unfold z7A at b0
        have x0 := cell_blk b0 0
        have x1 := cell_blk b0 1
        have x2 := cell_blk b0 2
        have x3 := cell_blk b0 3
        have x4 := cell_blk b0 4
        have x5 := cell_blk b0 5
        have x6 := cell_blk b0 6
        have hfz : ∀ k, wr.frozen? ⟨w.heap.size, k, none⟩ = false := fun k => by simp [World.frozen?, b0]
        have lb := (Array.getElem?_eq_some_iff.1 b0).1
        have hB := Mr.hid hM.bel
        clear hnm heq hcr hts hi hp hq hq2 hh c2 hM b0
        go_upto_region 8 with fail
        go_quiet (fail)
        replace hB := Mr.hid (hB.out.trans ⟨rfl, rfl, rfl, Nat.le_refl _, fun _ _ => rfl⟩ : Below w.heap.size w (wr.drewN nq))
        replace x0 : (wr.drewN nq).cell? ⟨w.heap.size, 0, none⟩ = _ := x0
        replace x1 : (wr.drewN nq).cell? ⟨w.heap.size, 1, none⟩ = _ := x1
        replace x2 : (wr.drewN nq).cell? ⟨w.heap.size, 2, none⟩ = _ := x2
        replace x3 : (wr.drewN nq).cell? ⟨w.heap.size, 3, none⟩ = _ := x3
        replace x4 : (wr.drewN nq).cell? ⟨w.heap.size, 4, none⟩ = _ := x4
        replace x5 : (wr.drewN nq).cell? ⟨w.heap.size, 5, none⟩ = _ := x5
        replace x6 : (wr.drewN nq).cell? ⟨w.heap.size, 6, none⟩ = _ := x6
        replace hfz : ∀ k, (wr.drewN nq).frozen? ⟨w.heap.size, k, none⟩ = false := hfz
        replace lb : w.heap.size < (wr.drewN nq).heap.size := lb
        clear c1 cn hgw hbw
        generalize wr.drewN nq = w6 at *
        go_wp2
        refine bodyPost_ret (v := .tuple #[.agg #[.int .i64 0, .int .i64 0, .int .i64 0, .int .i64 0, .int .i64 0, .int .i64 0, .int .i64 0], .int .i64 170]) (by simp [results, Tryz.results24, go_sem, *]) rfl ⟨by rw [← hRV.out, ← hME.out, hE.out, if_neg (by decide)]; rfl, ?_⟩
        exact (((((((hB.out.setCell (p := ⟨w.heap.size, 0, none⟩) (Nat.le_refl _) _).setCell (p := ⟨w.heap.size, 1, none⟩) (Nat.le_refl _) _).setCell (p := ⟨w.heap.size, 2, none⟩) (Nat.le_refl _) _).setCell (p := ⟨w.heap.size, 3, none⟩) (Nat.le_refl _) _).setCell (p := ⟨w.heap.size, 4, none⟩) (Nat.le_refl _) _).setCell (p := ⟨w.heap.size, 5, none⟩) (Nat.le_refl _) _).setCell (p := ⟨w.heap.size, 6, none⟩) (Nat.le_refl _) _)
    · obtain rfl : i = 7 := by omega
      have hte : (tsL ws).take 7 = tsL ws := rfl
      rw [hte] at hh
      obtain ⟨Yb, Yg⟩ := YES.out (fun j hj => hnm j hj)
      have F1 := Mr.hid (FL.out wr _ av cv rfl hh)
      have dl : decide (((7 : Nat) : Int) < 7) = false := by decide
      have dl2 : ¬ ((7 : Nat) : Int) < 7 := by omega
      clear hnm hte FL NO YES hc hi hlt
      by_cases hf : fltL (tsL ws) = 0
      · obtain ⟨hns, hme⟩ := Yg hf
        have hok : ∀ x ∈ tsL ws, (numOk x).isSome = true := by
          unfold fltL at hf
          split at hf
          · split at hf
            · rename_i h2; exact List.all_eq_true.1 h2
            · omega
          · omega
        rw [hf] at F1
        have N2 : Hid (∀ i x, (tsL ws)[i]? = some x → ∀ W, Calls Tryz.prog 39 #[.string ⟨x.toArray⟩] W fun e w' => e = .returned (.tuple #[.int .i64 (numV x), .bool true]) ∧ w' = W) := fun i x hx W => (NB.out x (List.mem_of_getElem? hx) W).mono fun e w' ⟨y, h1, h2, h3⟩ => by
          have hk := hok x (List.mem_of_getElem? hx)
          rw [hk] at h1
          rw [h2 hk] at h1
          exact ⟨h1, h3⟩
        replace hns := Mr.hid hns
        replace hme := Mr.hid hme
        have hM' := Mr.hid hM
        obtain ⟨gt, capt, hvt, -, hgt, -, -⟩ := hh.there (by decide)
        cases hvt
        have hct : Hid (∀ i x, (tsL ws)[i]? = some x → wr.cell? ⟨gt, i, none⟩ = some (.string ⟨x.toArray⟩)) := fun i x hx => hh.cells (g := gt) rfl i _ (by simp [strs, hx])
        obtain ⟨ii, hii, hz0, hz1, hz2⟩ := info_i
        have htl : (tsL ws).length = 7 := rfl
        have hnl : ((tsL ws).map numV).length = 7 := by simp [htl]
        have hget : ∀ i, i < 7 → ∃ x, (tsL ws)[i]? = some x ∧ ((tsL ws).map numV)[i]? = some (numV x) := fun i hi => ⟨_, List.getElem?_eq_getElem (by omega), by rw [List.getElem?_map, List.getElem?_eq_getElem (by omega)]; rfl⟩
        replace hget := Mr.hid hget
        replace hnl := Mr.hid hnl
        clear Yb Yg NB hf hM hh hok htl
        go_upto_region 16 with (go_at_call 38; refine F1.out.mono ?_; clear F1; rintro e w9 ⟨rfl, hw9⟩; obtain rfl := hw9.symm)
        generalize wr = wo at *
        go_loopg [8, 58] 7 (fun gk s8 s58 wq => ∃ (u : Value) (i : Nat), s8 = u ∧ s58 = .int .i64 (i : Int) ∧ i + gk = 7 ∧ Has wq (fun k => wo.heap.size ≤ k) 3 1 u i (ints (((tsL ws).map numV).take i)) ∧ Below wo.heap.size wo wq)
        case atStart => exact ⟨_, 0, rfl, rfl, by omega, Has.nil _ _ _ _, Below.refl _ _⟩
        case round =>
          obtain ⟨u, i, rfl, rfl, hi, hu, hBq⟩ := hrel
          obtain ⟨au, cu, rfl, hcu⟩ := hu.form
          by_cases hlt : i < 7
          · obtain ⟨x, hx, hxn⟩ := hget.out i hlt
            have ct : wr.cell? ⟨gt, i, none⟩ = some (.string ⟨x.toArray⟩) := (hBq.cell (p := ⟨gt, i, none⟩) hgt).trans (hct.out i x hx)
            have hgq : gt < wr.heap.size := Nat.lt_of_lt_of_le hgt hBq.size
            have N3 := Mr.hid (N2.out i x hx)
            have htk := Mr.hid (take_succ_of hxn)
            have hw : IntKind.i64.wrap ((i : Int) + 1) = (i : Int) + 1 := i64x _ (by omega) (by omega)
            have hlI : (i : Int) < 7 := by omega
            have el : decide ((i : Int) < 7) = true := by simpa using hlI
            have hi' := Mr.hid hi
            replace hu := Mr.hid hu
            replace hBq := Mr.hid hBq
            generalize (⟨x.toArray⟩ : ByteArray) = X at *
            generalize numV x = nv at *
            clear hx hxn hi hct N2
            go_upto_region 19 with (go_at_call 39; refine (N3.out _).mono ?_; clear N3; rintro e w9 ⟨rfl, hw9⟩; obtain rfl := hw9.symm)
            go_wp2_with (at_builtin; refine wpList_append_has _ rfl _ _ 87 rfl (fun k => wo.heap.size ≤ k) 3 ii (.int .i64 0) 1 8 Tryz.underlying87 hii hz0 hz1 hz2 rfl _ _ _ rfl (hu.out.alloc _) ⟨wr.heap.size, 0, none⟩ 1 1 [.int .i64 nv] rfl rfl (newsOne _ _ _ rfl) (by intro u hu; simp at hu; subst hu; rfl) (by decide) (by unfold maxLen; omega) (by omega) (by have := hBq.out.size; simp; omega) ?_; intro g2 cap2 w3 hh3 hgr hgg)
            have hB3 : Hid (Below wo.heap.size wo w3) := (hBq.out.alloc hBq.out.size _).grown hgr (by have := hBq.out.size; simp; omega) (fun k hk => (hu.out.lt k hk).1)
            have hh4 : Hid (Has w3 (fun k => wo.heap.size ≤ k) 3 1 (.slice (some ⟨g2, 0, none⟩) (i + 1) cap2) (i + 1) (ints (((tsL ws).map numV).take (i + 1)))) := by
              show Has _ _ _ _ _ _ _
              have h2 : ints (((tsL ws).map numV).take (i + 1)) = ints (((tsL ws).map numV).take i) ++ [.int .i64 nv] := by rw [htk.out]; simp [ints]
              rw [h2]
              exact hh3
            clear hh3 hgr hgg hu hBq ct hgq
            go_wp2
            go_roundg (gk - 1)
            case measure => have := hi'.out; omega
            case rel => exact ⟨_, i + 1, rfl, by simp, by have := hi'.out; omega, hh4.out, hB3.out⟩
          · obtain rfl : i = 7 := by omega
            have hte : ((tsL ws).map numV).take 7 = (tsL ws).map numV := rfl
            rw [hte] at hu
            obtain ⟨gu, capu, hvu, -, hgu, hcapu, -⟩ := hu.there (by decide)
            cases hvu
            have hgi : Hid (∀ j, j < 7 → (ints ((tsL ws).map numV))[j]? = some (.int .i64 (((tsL ws).map numV).getD j 0))) := fun j hj => by
              simp only [ints, List.getElem?_map, List.getD_eq_getElem?_getD]
              obtain ⟨x, hx, hxn⟩ := hget.out j hj
              rw [hx]; rfl
            have hRV2 : Hid (ME = 0 → cfV (cfN ((tsL ws).map numV)) = RV) := fun h => by rw [← hRV.out, hME.out, if_pos h, hns.out]
            have hRV3 : Hid (ME ≠ 0 → cfV cfZ = RV) := fun h => by rw [← hRV.out, hME.out, if_neg h]
            have hcf : Hid (ME = if cfgC (cfN ((tsL ws).map numV)) = true then 0 else 1) := hME.out.symm.trans hme.out
            generalize hcn : cfN ((tsL ws).map numV) = cn at *
            obtain ⟨n0, n1, n2, n3, n4, n5, n6⟩ := cn
            unfold cfN at hcn
            injection hcn with g0 g1 g2 g3 g4 g5 g6
            obtain ⟨wq, hwq⟩ : ∃ x, x = wr := ⟨_, rfl⟩
            rw [← hwq] at hu hBq hgu
            have y0 : wq.cell? ⟨gu, 0, none⟩ = some (.int .i64 n0) := hu.cells (g := gu) rfl 0 _ ((hgi.out 0 (by decide)).trans (by rw [g0]))
            have y1 : wq.cell? ⟨gu, 1, none⟩ = some (.int .i64 n1) := hu.cells (g := gu) rfl 1 _ ((hgi.out 1 (by decide)).trans (by rw [g1]))
            have y2 : wq.cell? ⟨gu, 2, none⟩ = some (.int .i64 n2) := hu.cells (g := gu) rfl 2 _ ((hgi.out 2 (by decide)).trans (by rw [g2]))
            have y3 : wq.cell? ⟨gu, 3, none⟩ = some (.int .i64 n3) := hu.cells (g := gu) rfl 3 _ ((hgi.out 3 (by decide)).trans (by rw [g3]))
            have y4 : wq.cell? ⟨gu, 4, none⟩ = some (.int .i64 n4) := hu.cells (g := gu) rfl 4 _ ((hgi.out 4 (by decide)).trans (by rw [g4]))
            have y5 : wq.cell? ⟨gu, 5, none⟩ = some (.int .i64 n5) := hu.cells (g := gu) rfl 5 _ ((hgi.out 5 (by decide)).trans (by rw [g5]))
            have y6 : wq.cell? ⟨gu, 6, none⟩ = some (.int .i64 n6) := hu.cells (g := gu) rfl 6 _ ((hgi.out 6 (by decide)).trans (by rw [g6]))
            rw [hwq] at hu hBq hgu y0 y1 y2 y3 y4 y5 y6
            clear hwq
            have BB : Below w.heap.size w wr := hM'.out.bel.trans (hBq.mono hM'.out.bel.size)
            have b0 : Hid (wr.heap[w.heap.size]? = some (.cells z7A 23 (0, 0))) := (hBq.block _ (by have := hM'.out.lt; omega)).trans hM'.out.box
            have RC := Mr.hid (fun W => Wc.refConfig n0 n1 n2 n3 n4 n5 n6 W)
            unfold cfgC at hcf
            unfold cfV cfZ at hRV3
            unfold cfV at hRV2
            dsimp only at hcf hRV3 hRV2
            generalize Wc.cfgB n0 n1 n2 n3 n4 n5 n6 = cb at *
            have el : decide (((7 : Nat) : Int) < 7) = false := by decide
            have el2 : ¬ ((7 : Nat) : Int) < 7 := by omega
            replace BB := Mr.hid BB
            clear g0 g1 g2 g3 g4 g5 g6 hu hgi hte hi hlt hM' hBq hget hct N2 hns hme hRV hME
            go_upto_region 21 with fail
            go_region_held3 (fun W => W.cell? ⟨gu, 0, none⟩ = some (.int .i64 n0) ∧ W.cell? ⟨gu, 1, none⟩ = some (.int .i64 n1) ∧ W.cell? ⟨gu, 2, none⟩ = some (.int .i64 n2) ∧ W.cell? ⟨gu, 3, none⟩ = some (.int .i64 n3) ∧ W.cell? ⟨gu, 4, none⟩ = some (.int .i64 n4) ∧ W.cell? ⟨gu, 5, none⟩ = some (.int .i64 n5) ∧ W.cell? ⟨gu, 6, none⟩ = some (.int .i64 n6)) (simp [*, go_sem]) (fail)
            have hlw := (Array.getElem?_eq_some_iff.1 b0.out).1
            have BB4 : Hid (Below w.heap.size w (wr.alloc (.cells #[.int .i64 n0, .int .i64 n1, .int .i64 n2, .int .i64 n3, .int .i64 n4, .int .i64 n5, .int .i64 n6] 23)).drew) := (BB.out.alloc BB.out.size _).drew
            have b4 : Hid ((wr.alloc (.cells #[.int .i64 n0, .int .i64 n1, .int .i64 n2, .int .i64 n3, .int .i64 n4, .int .i64 n5, .int .i64 n6] 23)).drew.heap[w.heap.size]? = some (.cells z7A 23 (0, 0))) := (Lib.alloc_old wr _ _ hlw).trans b0.out
            have hcb0 : Hid ((wr.alloc (.cells #[.int .i64 n0, .int .i64 n1, .int .i64 n2, .int .i64 n3, .int .i64 n4, .int .i64 n5, .int .i64 n6] 23)).drew.heap[wr.heap.size]? = some (.cells #[.int .i64 n0, .int .i64 n1, .int .i64 n2, .int .i64 n3, .int .i64 n4, .int .i64 n5, .int .i64 n6] 23 (0, 0))) := new_at _ _ _ rfl
            have hnew : wr.heap.size < (wr.alloc (.cells #[.int .i64 n0, .int .i64 n1, .int .i64 n2, .int .i64 n3, .int .i64 n4, .int .i64 n5, .int .i64 n6] 23)).drew.heap.size := by show wr.heap.size < (wr.alloc _).heap.size; simp
            have hnl2 : w.heap.size < (wr.alloc (.cells #[.int .i64 n0, .int .i64 n1, .int .i64 n2, .int .i64 n3, .int .i64 n4, .int .i64 n5, .int .i64 n6] 23)).drew.heap.size := by show _ < (wr.alloc _).heap.size; simp; omega
            have hne : w.heap.size ≠ wr.heap.size := by omega
            have z0 := cell_blk hcb0.out 0
            have z1 := cell_blk hcb0.out 1
            have z2 := cell_blk hcb0.out 2
            have z3 := cell_blk hcb0.out 3
            have z4 := cell_blk hcb0.out 4
            have z5 := cell_blk hcb0.out 5
            have z6 := cell_blk hcb0.out 6
            clear BB b0 hlw y0 y1 y2 y3 y4 y5 y6
            generalize (wr.alloc (.cells #[.int .i64 n0, .int .i64 n1, .int .i64 n2, .int .i64 n3, .int .i64 n4, .int .i64 n5, .int .i64 n6] 23)).drew = w4 at *
            generalize wr.heap.size = bc at *
            cases cb with
            | false =>
              have hM1 : ME = 1 := hcf.out
              subst hM1
              have hRV4 := hRV3.out (by decide)
              replace hRV4 := Mr.hid hRV4
              clear hcf hRV2 hRV3
              go_upto_region 23 with (go_at_call 15; refine (RC.out _).mono ?_; clear RC; rintro e w5 ⟨rfl, B5⟩)
              have BB5 : Hid (Below w.heap.size w w5) := BB4.out.trans (B5.mono BB4.out.size)
              have b5 : w5.heap[w.heap.size]? = some (.cells z7A 23 (0, 0)) := (B5.block _ hnl2).trans b4.out
              unfold z7A at b5
              have hcb : w5.heap[bc]? = some (.cells #[.int .i64 n0, .int .i64 n1, .int .i64 n2, .int .i64 n3, .int .i64 n4, .int .i64 n5, .int .i64 n6] 23 (0, 0)) := (B5.block _ hnew).trans hcb0.out
              clear z0 z1 z2 z3 z4 z5 z6
              have x0 := cell_blk b5 0
              have x1 := cell_blk b5 1
              have x2 := cell_blk b5 2
              have x3 := cell_blk b5 3
              have x4 := cell_blk b5 4
              have x5 := cell_blk b5 5
              have x6 := cell_blk b5 6
              have z0 := cell_blk hcb 0
              have z1 := cell_blk hcb 1
              have z2 := cell_blk hcb 2
              have z3 := cell_blk hcb 3
              have z4 := cell_blk hcb 4
              have z5 := cell_blk hcb 5
              have z6 := cell_blk hcb 6
              have hfz : ∀ k, w5.frozen? ⟨w.heap.size, k, none⟩ = false := fun k => by simp [World.frozen?, b5]
              have lb := (Array.getElem?_eq_some_iff.1 b5).1
              have lc := (Array.getElem?_eq_some_iff.1 hcb).1
              clear b5 hcb B5 BB4 b4 hcb0 hnew hnl2
              go_wp2
              refine bodyPost_ret (v := .tuple #[.agg #[.int .i64 0, .int .i64 0, .int .i64 0, .int .i64 0, .int .i64 0, .int .i64 0, .int .i64 0], .int .i64 1]) (by simp [results, Tryz.results24, go_sem, *]) rfl ⟨by rw [← hRV4.out], ?_⟩
              exact (((((((BB5.out.setCell (p := ⟨w.heap.size, 0, none⟩) (Nat.le_refl _) _).setCell (p := ⟨w.heap.size, 1, none⟩) (Nat.le_refl _) _).setCell (p := ⟨w.heap.size, 2, none⟩) (Nat.le_refl _) _).setCell (p := ⟨w.heap.size, 3, none⟩) (Nat.le_refl _) _).setCell (p := ⟨w.heap.size, 4, none⟩) (Nat.le_refl _) _).setCell (p := ⟨w.heap.size, 5, none⟩) (Nat.le_refl _) _).setCell (p := ⟨w.heap.size, 6, none⟩) (Nat.le_refl _) _)
            | true =>
              have hM1 : ME = 0 := hcf.out
              subst hM1
              have hRV4 := hRV2.out rfl
              replace hRV4 := Mr.hid hRV4
              clear hcf hRV2 hRV3
              go_upto_region 24 with (go_at_call 15; refine (RC.out _).mono ?_; clear RC; rintro e w5 ⟨rfl, B5⟩)
              have BB5 : Hid (Below w.heap.size w w5) := BB4.out.trans (B5.mono BB4.out.size)
              have b5 : w5.heap[w.heap.size]? = some (.cells z7A 23 (0, 0)) := (B5.block _ hnl2).trans b4.out
              unfold z7A at b5
              have hcb : w5.heap[bc]? = some (.cells #[.int .i64 n0, .int .i64 n1, .int .i64 n2, .int .i64 n3, .int .i64 n4, .int .i64 n5, .int .i64 n6] 23 (0, 0)) := (B5.block _ hnew).trans hcb0.out
              clear z0 z1 z2 z3 z4 z5 z6
              have x0 := cell_blk b5 0
              have x1 := cell_blk b5 1
              have x2 := cell_blk b5 2
              have x3 := cell_blk b5 3
              have x4 := cell_blk b5 4
              have x5 := cell_blk b5 5
              have x6 := cell_blk b5 6
              have z0 := cell_blk hcb 0
              have z1 := cell_blk hcb 1
              have z2 := cell_blk hcb 2
              have z3 := cell_blk hcb 3
              have z4 := cell_blk hcb 4
              have z5 := cell_blk hcb 5
              have z6 := cell_blk hcb 6
              have hfz : ∀ k, w5.frozen? ⟨w.heap.size, k, none⟩ = false := fun k => by simp [World.frozen?, b5]
              have lb := (Array.getElem?_eq_some_iff.1 b5).1
              have lc := (Array.getElem?_eq_some_iff.1 hcb).1
              clear b5 hcb B5 BB4 b4 hcb0 hnew hnl2
              go_wp2
              refine bodyPost_ret (v := .tuple #[.agg #[.int .i64 n0, .int .i64 n1, .int .i64 n2, .int .i64 n3, .int .i64 n4, .int .i64 n5, .int .i64 n6], .int .i64 0]) (by simp [results, Tryz.results24, go_sem, *]) rfl ⟨by rw [← hRV4.out], ?_⟩
              exact (((((((BB5.out.setCell (p := ⟨w.heap.size, 0, none⟩) (Nat.le_refl _) _).setCell (p := ⟨w.heap.size, 1, none⟩) (Nat.le_refl _) _).setCell (p := ⟨w.heap.size, 2, none⟩) (Nat.le_refl _) _).setCell (p := ⟨w.heap.size, 3, none⟩) (Nat.le_refl _) _).setCell (p := ⟨w.heap.size, 4, none⟩) (Nat.le_refl _) _).setCell (p := ⟨w.heap.size, 5, none⟩) (Nat.le_refl _) _).setCell (p := ⟨w.heap.size, 6, none⟩) (Nat.le_refl _) _)
      · have hE := Mr.hid (Yb hf)
        generalize hfe : fltL (tsL ws) = f at *
        have hne : (f != 0) = true := bne_iff_ne.2 hf
        have hne2 : ¬ f = 0 := hf
        have b0 := hM.box
        unfold z7A at b0
        have x0 := cell_blk b0 0
        have x1 := cell_blk b0 1
        have x2 := cell_blk b0 2
        have x3 := cell_blk b0 3
        have x4 := cell_blk b0 4
        have x5 := cell_blk b0 5
        have x6 := cell_blk b0 6
        have hfz : ∀ k, wr.frozen? ⟨w.heap.size, k, none⟩ = false := fun k => by simp [World.frozen?, b0]
        have lb := (Array.getElem?_eq_some_iff.1 b0).1
        have hB := Mr.hid hM.bel
        clear Yb Yg hh hM b0 hfe NB
        go_wp2_with (go_at_call 38; refine F1.out.mono ?_; clear F1; rintro e w9 ⟨rfl, hw9⟩; obtain rfl := hw9.symm)
        refine bodyPost_ret (v := .tuple #[.agg #[.int .i64 0, .int .i64 0, .int .i64 0, .int .i64 0, .int .i64 0, .int .i64 0, .int .i64 0], .int .i64 f]) (by simp [results, Tryz.results24, go_sem, *]) rfl ⟨by rw [← hRV.out, ← hME.out, hE.out, if_neg hf]; rfl, ?_⟩
        exact (((((((hB.out.setCell (p := ⟨w.heap.size, 0, none⟩) (Nat.le_refl _) _).setCell (p := ⟨w.heap.size, 1, none⟩) (Nat.le_refl _) _).setCell (p := ⟨w.heap.size, 2, none⟩) (Nat.le_refl _) _).setCell (p := ⟨w.heap.size, 3, none⟩) (Nat.le_refl _) _).setCell (p := ⟨w.heap.size, 4, none⟩) (Nat.le_refl _) _).setCell (p := ⟨w.heap.size, 5, none⟩) (Nat.le_refl _) _).setCell (p := ⟨w.heap.size, 6, none⟩) (Nat.le_refl _) _)
end Go.Proofs.YtcomelbphdjnnaaGreatDoor.Sc
/-
  SCRIPT, pure: a line that is printed is read as its moves.
-/
namespace Go.Proofs.YtcomelbphdjnnaaGreatDoor.Sc
open Go.RowKit
open Go.Lib (itoa)
set_option linter.unusedVariables false
set_option linter.unusedSimpArgs false
/-- What a line of these words does. -/
structure Ln (T : Nat) (done : List Mv) (L : List UInt8) (mv : List Mv) : Prop where
  ex : ∃ ws, L = Lib.join ws [32] ++ [10] ∧ (∀ x ∈ ws, Gw x) ∧ (∀ x ∈ ws, ∀ c ∈ x, c ≠ 10) ∧ ws ≠ [] ∧ entE T done ws = 0 ∧ entM T done ws = done ++ mv
theorem ent_of {T : Nat} {done : List Mv} {ws : List (List UInt8)} {mv : List Mv} {t : Nat} (hm : mean T ws (numsL ws) = (mv, (t : Int))) (hw : wholeL ws = true) (hn : mv ≠ []) (h1 : 1 ≤ t) (h2 : done.length + t * mv.length ≤ 65536) : entE T done ws = 0 ∧ entM T done ws = done ++ (List.replicate t mv).flatten := by
  have hl : 1 ≤ mv.length := List.length_pos_iff.2 hn
  have h3 : t ≤ t * mv.length := Nat.le_mul_of_pos_right _ hl
  have ht : ((t : Int)).toNat = t := by omega
  unfold entE entM
  rw [hm]
  dsimp only
  rw [if_neg hn, hw, if_neg (by simp), if_neg (by omega), ht, if_neg (by omega)]
  exact ⟨rfl, rfl⟩
theorem nums_two (l : List (List UInt8)) (a : List UInt8) : numsL (a :: l) = (if numLike a = true then [numV a] else []) ++ numsL l := by
  unfold numsL
  by_cases h : numLike a = true <;> simp [h]
theorem whole_two (l : List (List UInt8)) (a : List UInt8) : wholeL (a :: l) = ((!(numLike a) || (numOk a).isSome) && wholeL l) := by
  unfold wholeL
  by_cases h : numLike a = true <;> simp [h]
theorem nums_i {n : Int} (h : Bd n) (l : List (List UInt8)) : numsL (itoa n :: l) = n :: numsL l := by
  rw [nums_two, if_pos (numLike_itoa n h), numV_itoa n h]; rfl
theorem whole_i {n : Int} (h : Bd n) (l : List (List UInt8)) : wholeL (itoa n :: l) = wholeL l := by
  rw [whole_two, numOk_itoa n h]; simp
theorem nums_w {x : List UInt8} (h : numLike x = false) (l : List (List UInt8)) : numsL (x :: l) = numsL l := by
  rw [nums_two, if_neg (by simp [h])]; rfl
theorem whole_w {x : List UInt8} (h : numLike x = false) (l : List (List UInt8)) : wholeL (x :: l) = wholeL l := by
  rw [whole_two, h]; simp
theorem nums_nil : numsL [] = [] := rfl
theorem whole_nil : wholeL [] = true := rfl
theorem nrm_w {x : List UInt8} (h : numLike x = false) : nrm x = x := by unfold nrm; rw [if_neg (by simp [h])]
theorem gw_of (x : List UInt8) (h : (!(x.isEmpty) && x.all (fun c => !(bl c) && !(c == 10)) && !(x.head? == some 35)) = true) : Gw x ∧ ∀ c ∈ x, c ≠ 10 := by
  simp only [Bool.and_eq_true, Bool.not_eq_true', List.all_eq_true, beq_eq_false_iff_ne] at h
  obtain ⟨⟨h1, h2⟩, h3⟩ := h
  exact ⟨⟨(by intro e; rw [e] at h1; cases h1), fun c hc => (h2 c hc).1, h3⟩, fun c hc => (h2 c hc).2⟩
theorem dot_ok : Gw [46] ∧ (∀ c ∈ ([46] : List UInt8), c ≠ 10) ∧ numLike [46] = false := ⟨(gw_of [46] (by decide)).1, (gw_of [46] (by decide)).2, by decide⟩
theorem op_ok : Gw [111, 112] ∧ (∀ c ∈ ([111, 112] : List UInt8), c ≠ 10) ∧ numLike [111, 112] = false := ⟨(gw_of [111, 112] (by decide)).1, (gw_of [111, 112] (by decide)).2, by decide⟩
theorem i_ne (n : Int) (h : Bd n) : ∀ c ∈ itoa n, c ≠ 10 := itoa_byte_ne n h 10 (by decide)
theorem ln_step (T : Nat) (done : List Mv) (th : Int) (h : Bd th) (hl : done.length + 1 ≤ 65536) : Ln T done (fil fStep [th] ++ [10]) [stp th] := by
  obtain ⟨g1, g2, g3⟩ := dot_ok
  have hf : formL [itoa th, [46]] = fStep := by unfold formL; simp only [List.map_cons, List.map_nil, nrm_itoa th h, nrm_w g3]; decide
  have hn : numsL [itoa th, [46]] = [th] := by rw [nums_i h, nums_w g3, nums_nil]
  have hw : wholeL [itoa th, [46]] = true := by rw [whole_i h, whole_w g3, whole_nil]
  have hm : mean T [itoa th, [46]] (numsL [itoa th, [46]]) = ([stp th], ((1 : Nat) : Int)) := by unfold mean; rw [if_pos hf, hn]; rfl
  obtain ⟨e1, e2⟩ := ent_of (done := done) hm hw (by simp) (by omega) (by simpa using hl)
  refine ⟨[itoa th, [46]], ?_, ?_, ?_, by simp, e1, by rw [e2]; simp⟩
  · simp [fStep, fil, Lib.join, List.intercalate]
  · intro x hx
    simp at hx
    rcases hx with rfl | rfl
    · exact gw_itoa th h
    · exact g1
  · intro x hx
    simp at hx
    rcases hx with rfl | rfl
    · exact i_ne th h
    · exact g2
theorem ln_steps (T : Nat) (done : List Mv) (th : Int) (n : Nat) (h : Bd th) (h1 : 1 ≤ n) (hl : done.length + n ≤ 65536) : Ln T done (fil fSteps [th, (n : Int)] ++ [10]) (List.replicate n (stp th)) := by
  obtain ⟨g1, g2, g3⟩ := dot_ok
  have hb : Bd (n : Int) := by unfold Bd; omega
  have hf : formL [itoa th, [46], itoa (n : Int)] = fSteps := by unfold formL; simp only [List.map_cons, List.map_nil, nrm_itoa th h, nrm_itoa _ hb, nrm_w g3]; decide
  have hn : numsL [itoa th, [46], itoa (n : Int)] = [th, (n : Int)] := by rw [nums_i h, nums_w g3, nums_i hb, nums_nil]
  have hw : wholeL [itoa th, [46], itoa (n : Int)] = true := by rw [whole_i h, whole_w g3, whole_i hb, whole_nil]
  have hm : mean T [itoa th, [46], itoa (n : Int)] (numsL [itoa th, [46], itoa (n : Int)]) = ([stp th], ((n : Nat) : Int)) := by unfold mean; rw [hf, if_neg (by decide), if_pos rfl, hn]; rfl
  obtain ⟨e1, e2⟩ := ent_of (done := done) hm hw (by simp) h1 (by simpa using hl)
  refine ⟨[itoa th, [46], itoa (n : Int)], ?_, ?_, ?_, by simp, e1, ?_⟩
  · simp [fSteps, fil, Lib.join, List.intercalate]
  · intro x hx
    simp at hx
    rcases hx with rfl | rfl | rfl
    · exact gw_itoa th h
    · exact g1
    · exact gw_itoa _ hb
  · intro x hx
    simp at hx
    rcases hx with rfl | rfl | rfl
    · exact i_ne th h
    · exact g2
    · exact i_ne _ hb
  · rw [e2, List.flatten_replicate_singleton]
theorem ln_op (T : Nat) (done : List Mv) (m : Mv) (h : MvB m) (hl : done.length + 1 ≤ 65536) : Ln T done (fil fOp [m.th, m.op, m.arg, m.data] ++ [10]) [m] := by
  obtain ⟨h1, h2, h3, h4⟩ := h
  obtain ⟨g1, g2, g3⟩ := op_ok
  have hf : formL [itoa m.th, [111, 112], itoa m.op, itoa m.arg, itoa m.data] = fOp := by unfold formL; simp only [List.map_cons, List.map_nil, nrm_itoa _ h1, nrm_itoa _ h2, nrm_itoa _ h3, nrm_itoa _ h4, nrm_w g3]; decide
  have hn : numsL [itoa m.th, [111, 112], itoa m.op, itoa m.arg, itoa m.data] = [m.th, m.op, m.arg, m.data] := by rw [nums_i h1, nums_w g3, nums_i h2, nums_i h3, nums_i h4, nums_nil]
  have hw : wholeL [itoa m.th, [111, 112], itoa m.op, itoa m.arg, itoa m.data] = true := by rw [whole_i h1, whole_w g3, whole_i h2, whole_i h3, whole_i h4, whole_nil]
  have hm : mean T [itoa m.th, [111, 112], itoa m.op, itoa m.arg, itoa m.data] (numsL [itoa m.th, [111, 112], itoa m.op, itoa m.arg, itoa m.data]) = ([m], ((1 : Nat) : Int)) := by unfold mean; rw [hf, if_neg (by decide), if_neg (by decide), if_neg (by decide), if_pos rfl, hn]; rfl
  obtain ⟨e1, e2⟩ := ent_of (done := done) hm hw (by simp) (by omega) (by simpa using hl)
  refine ⟨[itoa m.th, [111, 112], itoa m.op, itoa m.arg, itoa m.data], ?_, ?_, ?_, by simp, e1, by rw [e2]; simp⟩
  · simp [fOp, fil, Lib.join, List.intercalate]
  · intro x hx
    simp at hx
    rcases hx with rfl | rfl | rfl | rfl | rfl
    · exact gw_itoa _ h1
    · exact g1
    · exact gw_itoa _ h2
    · exact gw_itoa _ h3
    · exact gw_itoa _ h4
  · intro x hx
    simp at hx
    rcases hx with rfl | rfl | rfl | rfl | rfl
    · exact i_ne _ h1
    · exact g2
    · exact i_ne _ h2
    · exact i_ne _ h3
    · exact i_ne _ h4
end Go.Proofs.YtcomelbphdjnnaaGreatDoor.Sc
