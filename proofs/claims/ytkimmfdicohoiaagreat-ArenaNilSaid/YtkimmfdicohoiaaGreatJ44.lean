import Derived.Test.YtkimmfdicohoiaaGreatJ42
import Derived.Test.YtkimmfdicohoiaaGreatJ43
import Derived.Test.YtkimmfdicohoiaaGreatJ37
import Derived.Deep.RegionHeld3
import Derived.Test.YtkimmfdicohoiaaGreatJ12
import Derived.Deep.LoopGhost
/-
  THE DOCUMENT's ARENA: its machine at the beginning.
-/
namespace Go.Proofs.YtkimmfdicohoiaaGreat.Rf
open Go.RowKit Mr Me Ma Ar Wc Wm Wr
set_option linter.unusedVariables false
/-- The first words, so many slots used. -/
def fwsU (c : Cf) (u : Int) (N : Nat) : List Int := (List.range N).map (fstF c.a1 c.a2 c.a5 c.a6 u)
theorem fwsU_len (c : Cf) (u : Int) (N : Nat) : (fwsU c u N).length = N := by simp [fwsU]
theorem fwsU_get (c : Cf) (u : Int) (N j : Nat) (hj : j < N) : (fwsU c u N)[j]? = some (fstF c.a1 c.a2 c.a5 c.a6 u j) := by simp [fwsU, hj]
theorem src_firstU {w : World} {b N : Nat} (c : Cf) (u : Int) (h : Row w b N (fstF c.a1 c.a2 c.a5 c.a6 u)) : Src w (some ⟨b, 0, none⟩) N N (fwsU c u N) := by
  refine ⟨(fwsU_len c u N).symm, .inr ⟨_, rfl, fun j v hv => ?_⟩⟩
  have hadd : (⟨b, 0, none⟩ : Addr).add j = ⟨b, j, none⟩ := by unfold Addr.add; split <;> simp_all
  have hj : j < N := by have := (List.getElem?_eq_some_iff.1 hv).1; rw [wrd_length, fwsU_len] at this; exact this
  rw [hadd, h.cell j hj]
  unfold wrd at hv
  rw [List.getElem?_map, fwsU_get c u N j hj] at hv
  exact hv
theorem code4_labels : ∀ I ∈ code4, I.kd = 10 → ∃ l : Nat, I.a = l ∧ l ≤ 1000 := by
  intro I hI hk
  have h : ∀ J ∈ code4, J.kd = 10 → (0 ≤ J.a ∧ J.a ≤ 1000) := by decide
  obtain ⟨h0, h1⟩ := h I hI hk
  exact ⟨I.a.toNat, by omega, by omega⟩
/-- The document's machine of an arena, at the beginning. -/
def Mq0 (W w' : World) (q : Rc) (c : Cf) (u : Int) (nt nr ns N : Nat) : Prop :=
  Rm w' (fun k => W.heap.size ≤ k ∧ k < w'.heap.size) q nilS nilS nilS ⟨fwsU c u N, List.replicate nt rt0, 0, [], []⟩ ∧ q.code = code4 ∧ q.labs = labsOf code4 58 ∧ q.ens = ens4 ∧ q.c0 = (nt : Int) ∧ q.c1 = (nr : Int) ∧ q.c2 = c.a2 ∧ q.c3 = c.a3 ∧ q.c4 = c.a4 ∧ q.c5 = (ns : Int) ∧ q.c6 = c.a6 ∧ q.nt = nt ∧
  Has w' (fun k => W.heap.size ≤ k) 65 1 q.vst ns (nums (stsOf u ns)) ∧ Has w' (fun k => W.heap.size ≤ k) 3 1 q.vho ns (nums (List.replicate ns (-1))) ∧ Has w' (fun k => W.heap.size ≤ k) 69 1 q.vli nr (List.replicate nr nilS) ∧ (∀ k, q.vlb.ownBlock = some k → q.vho.ownBlock ≠ some k) ∧ Below W.heap.size W w'
set_option maxRecDepth 100000 in
set_option maxHeartbeats 4000000 in
theorem Machine4_any (W : World) (c : Cf) (hc : c.ok = true) (nt nr ns N : Nat) (h0 : c.a0 = nt) (h1 : c.a1 = nr) (h5 : c.a5 = ns) (hN : base c.a1 c.a2 c.a5 c.a6 14 = (N : Int)) (u : Int) (hu0 : 0 ≤ u) (hu1 : u ≤ c.a5) :
    Calls Tryz.prog 16 #[c.val, .int .i64 u] W fun e w' => ∃ q, e = .returned (.pointer (some ⟨q.b, 0, none⟩)) ∧ Mq0 W w' q c u nt nr ns N := by
  have hc' : cfgB c.a0 c.a1 c.a2 c.a3 c.a4 c.a5 c.a6 = true := hc
  have FS := fun w => refFirst_all c.a0 c.a1 c.a2 c.a3 c.a4 c.a5 c.a6 u N w (ok_of hc') hN hu0 hu1
  obtain ⟨p1, p2, p3, p4, p5, p6, p7, p8⟩ := ok_of hc'
  have hq : inB c.a0 1 16 = true := by
    simp only [cfgB, Bool.and_eq_true] at hc'
    exact hc'.1.1.1.1.1.1
  have q0 := inB_iff hq
  have hN8 : N ≤ 8192 := by
    have hb : base c.a1 c.a2 c.a5 c.a6 14 = 6 + c.a6 + c.a1 + c.a1 * c.a2 + 4 * c.a5 := base14 _ _ _ _
    have : c.a1 * c.a2 ≤ 16 * 8 := Int.mul_le_mul p2 p4 (by omega) (by omega)
    omega
  have hcv : c.val = .agg #[.int .i64 (nt : Int), .int .i64 (nr : Int), .int .i64 c.a2, .int .i64 c.a3, .int .i64 c.a4, .int .i64 (ns : Int), .int .i64 c.a6] := by unfold Cf.val; rw [h0, h1, h5]
  rw [hcv]
  have FS' : ∀ w, Calls Tryz.prog 14 #[.agg #[.int .i64 (nt : Int), .int .i64 (nr : Int), .int .i64 c.a2, .int .i64 c.a3, .int .i64 c.a4, .int .i64 (ns : Int), .int .i64 c.a6], .int .i64 u] w fun e w' => ∃ b, e = .returned (.slice (some ⟨b, 0, none⟩) N N) ∧ w.heap.size ≤ b ∧ Src w' (some ⟨b, 0, none⟩) N N (fwsU c u N) ∧ Below w.heap.size w w' := fun w => by
    have := FS w
    rw [h0] at this
    rw [show (nr : Int) = c.a1 from h1.symm, show (ns : Int) = c.a5 from h5.symm]
    refine this.mono ?_
    rintro e w' ⟨b, rfl, h2, h3, h4⟩
    exact ⟨b, rfl, h2, src_firstU c u h3, h4⟩
  obtain ⟨O, hO⟩ : ∃ O : Obj, O = .cells #[.int .i64 (nt : Int), .int .i64 (nr : Int), .int .i64 c.a2, .int .i64 c.a3, .int .i64 c.a4, .int .i64 (ns : Int), .int .i64 c.a6] 23 := ⟨_, rfl⟩
  have BX : ∀ w', Below (W.heap.size + 1) (W.alloc O) w' → w'.cell? ⟨W.heap.size, 0, none⟩ = some (.int .i64 (nt : Int)) ∧ w'.cell? ⟨W.heap.size, 1, none⟩ = some (.int .i64 (nr : Int)) ∧ w'.cell? ⟨W.heap.size, 2, none⟩ = some (.int .i64 c.a2) ∧ w'.cell? ⟨W.heap.size, 3, none⟩ = some (.int .i64 c.a3) ∧ w'.cell? ⟨W.heap.size, 4, none⟩ = some (.int .i64 c.a4) ∧ w'.cell? ⟨W.heap.size, 5, none⟩ = some (.int .i64 (ns : Int)) ∧ w'.cell? ⟨W.heap.size, 6, none⟩ = some (.int .i64 c.a6) := fun w' hB => by
    have e : w'.heap[W.heap.size]? = some O := (hB.block _ (Nat.lt_succ_self _)).trans (heap_alloc_new W O)
    rw [hO] at e
    simp [World.cell?, e]
  have hsO : (W.alloc O).heap.size = W.heap.size + 1 := World.size_alloc _ _
  have hBd : Below (W.heap.size + 1) (W.alloc O) (W.alloc O).drew := (Below.refl _ _).drew
  have X0 := BX _ hBd
  have hB00 : Below W.heap.size W (W.alloc O) := (Below.refl _ _).alloc (Nat.le_refl _) _
  have NWf : ∀ (w1 w2 w3 : World) (b1 g2 cc2 g3 : Nat), Below (W.heap.size + 1) (W.alloc O) w1 → Src w1 (some ⟨b1, 0, none⟩) N N (fwsU c u N) → IsCode w1 w2 (.slice (some ⟨g2, 0, none⟩) 58 cc2) code4 → Below w2.heap.size w2 w3 → Has w3 (fun k => w2.heap.size ≤ k) 175 3 (.slice (some ⟨g3, 0, none⟩) 3 3) 3 (ens4.flatMap En.cells) →
      Calls Tryz.prog 53 #[.agg #[.int .i64 (nt : Int), .int .i64 (nr : Int), .int .i64 c.a2, .int .i64 c.a3, .int .i64 c.a4, .int .i64 (ns : Int), .int .i64 c.a6], .int .i64 u, .slice (some ⟨b1, 0, none⟩) N N, .slice (some ⟨g2, 0, none⟩) 58 cc2, .slice (some ⟨g3, 0, none⟩) 3 3] w3 fun e w' => ∃ q, e = .returned (.pointer (some ⟨q.b, 0, none⟩)) ∧ Mq0 W w' q c u nt nr ns N ∧ Below w3.heap.size w3 w' := by
    intro w1 w2 w3 b1 g2 cc2 g3 k1 k2 k3 k4 k5
    have k23 : Below w1.heap.size w1 w3 := k3.1.trans (k4.mono k3.1.size)
    have hcd := k3.2.below k4
    refine (New_any w3 nt nr ns u c.a2 c.a3 c.a4 c.a6 (by omega) (by omega) (by omega) _ N N _ (k2.below k23) hN8 hcd code4_labels).mono ?_
    rintro e w' ⟨b, vw, vlb, vt, vst, vho, vli, rfl, m1, m2, m3, m4, m5, m6, m7, m8, m9, m10⟩
    have z1 := k1.size
    have z2 := k3.1.size
    have z3 := k4.size
    have z4 := m1.size
    rw [hsO] at z1
    have hB : Below W.heap.size W w' := ((hB00.trans (k1.mono (by omega))).trans (k23.mono (by omega))).trans (m1.mono (by omega))
    obtain ⟨gt, ct, rfl, hgt, hgl, _, _⟩ := m6.there (by omega)
    have nar : ∀ {S : Nat → Prop} {e sz n : Nat} {v : Value} {xs : List Value}, Has w' S e sz v n xs → (∀ k, S k → W.heap.size ≤ k) → Has w' (fun k => W.heap.size ≤ k ∧ k < w'.heap.size) e sz v n xs := fun hh hS => hh.kept (fun _ _ => rfl) (fun k hk => ⟨hS k (hh.lt k hk).1, (hh.lt k hk).2⟩)
    refine ⟨⟨b, nt, nr, c.a2, c.a3, c.a4, ns, c.a6, vw, .slice (some ⟨g2, 0, none⟩) 58 cc2, vlb, .slice (some ⟨g3, 0, none⟩) 3 3, gt, nt, ct, vst, vho, vli, code4, labsOf code4 58, ens4⟩, rfl, ⟨⟨m3, ?_, ?_, ?_, ?_, ?_, by simp, Has.nil _ _ _ _, Has.nil _ _ _ _, ⟨by show W.heap.size ≤ b; omega, (Array.getElem?_eq_some_iff.1 m3).1⟩, fun k hk => hk.2⟩, rfl, rfl, rfl, rfl, rfl, rfl, rfl, rfl, rfl, rfl, rfl, m7.mono (fun k hk => by omega), m8.mono (fun k hk => by omega), m9.mono (fun k hk => by omega), m10, hB⟩, m1⟩
    · exact nar m4 (fun k hk => by omega)
    · exact nar (hcd.below m1) (fun k hk => by omega)
    · exact nar m5 (fun k hk => by omega)
    · exact nar (k5.below m1) (fun k hk => by omega)
    · exact nar m6 (fun k hk => by omega)
  replace NWf := Mr.hid NWf
  replace BX := Mr.hid BX
  replace FS' := Mr.hid FS'
  replace hBd := Mr.hid hBd
  replace hsO := Mr.hid hsO
  clear FS hcv hB00
  replace hc' := Mr.hid hc'
  replace hc := Mr.hid hc
  replace h0 := Mr.hid h0
  replace h1 := Mr.hid h1
  replace h5 := Mr.hid h5
  replace hN := Mr.hid hN
  clear hu0 hu1
  obtain ⟨x0, x1, x2, x3, x4, x5, x6⟩ := X0
  go_enter Tryz.func16, Tryz.ntmps16
  go_wp2_with fail
  rw [← hO]
  replace hO := Mr.hid hO
  go_region_held3 (fun w' => w'.cell? ⟨W.heap.size, 0, none⟩ = some (.int .i64 (nt : Int)) ∧ w'.cell? ⟨W.heap.size, 1, none⟩ = some (.int .i64 (nr : Int)) ∧ w'.cell? ⟨W.heap.size, 2, none⟩ = some (.int .i64 c.a2) ∧ w'.cell? ⟨W.heap.size, 3, none⟩ = some (.int .i64 c.a3) ∧ w'.cell? ⟨W.heap.size, 4, none⟩ = some (.int .i64 c.a4) ∧ w'.cell? ⟨W.heap.size, 5, none⟩ = some (.int .i64 (ns : Int)) ∧ w'.cell? ⟨W.heap.size, 6, none⟩ = some (.int .i64 c.a6)) (first | exact X1.out | exact X2.out | exact X3.out | exact X4.out | go_keep)
    (first
      | (go_at_call 14; refine (FS'.out _).mono ?_; clear FS'; rintro e w1 ⟨b1, rfl, hb1, hsrc, hB1⟩; have hb01 := Mr.hid (hBd.out.trans (hB1.mono (Nat.le_of_eq hsO.out.symm))); have X1 := Mr.hid (BX.out w1 hb01.out); replace hsrc := Mr.hid hsrc; clear hB1 hb1)
      | (go_at_call 54; refine (Code_any _).mono ?_; rintro e w2 ⟨g2, cc2, rfl, I2⟩; have hb02 := Mr.hid (hb01.out.trans (I2.1.mono (by have := hb01.out.size; rw [hsO.out] at this; exact this))); have X2 := Mr.hid (BX.out w2 hb02.out); replace I2 := Mr.hid I2)
      | (go_at_call 55; refine (Entries_any _).mono ?_; rintro e w3 ⟨g3, rfl, hB3, hE3⟩; have hb03 := Mr.hid (hb02.out.trans (hB3.mono (by have := hb02.out.size; rw [hsO.out] at this; exact this))); have X3 := Mr.hid (BX.out w3 hb03.out); replace hE3 := Mr.hid hE3; replace hB3 := Mr.hid hB3)
      | (go_at_call 53; refine (NWf.out w1 w2 w3 b1 g2 cc2 g3 hb01.out hsrc.out I2.out hB3.out hE3.out).mono ?_; clear NWf; rintro e w4 ⟨q, rfl, hq4, hB4⟩; have X4 := Mr.hid (BX.out w4 (hb03.out.trans (hB4.mono (by have := hb03.out.size; rw [hsO.out] at this; exact this)))); replace hq4 := Mr.hid hq4; clear hB4))
  go_wp2
  go_ret
  exact ⟨q, rfl, hq4.out⟩
end Go.Proofs.YtkimmfdicohoiaaGreat.Rf
/-
  THE DOCUMENT's ARENA: the run of no moves.
-/
namespace Go.Proofs.YtkimmfdicohoiaaGreat.Rf
open Go.RowKit Mr Me Ma Ar Wc Wm Wr
set_option linter.unusedVariables false
def rn0 : Obj := .cells #[.slice none 0 0, .slice none 0 0, .slice none 0 0, .slice none 0 0] 30
theorem rn0_cells {w : World} {B : Nat} (h : w.heap[B]? = some rn0) : w.cell? ⟨B, 0, none⟩ = some (.slice none 0 0) ∧ w.cell? ⟨B, 1, none⟩ = some (.slice none 0 0) ∧ w.cell? ⟨B, 2, none⟩ = some (.slice none 0 0) ∧ w.cell? ⟨B, 3, none⟩ = some (.slice none 0 0) ∧ (∀ j, w.frozen? ⟨B, j, none⟩ = false) := by
  unfold rn0 at h
  simp [World.cell?, World.frozen?, h]
/-- A run is stored into its box. -/
theorem run_stored {w : World} {B : Nat} (h : w.heap[B]? = some rn0) (v1 v2 v3 v4 : Value) (W5 : World) (hW : (((w.setCell ⟨B, 0, none⟩ v1).setCell ⟨B, 1, none⟩ v2).setCell ⟨B, 2, none⟩ v3).setCell ⟨B, 3, none⟩ v4 = W5) :
    W5.heap[B]? = some (.cells #[v1, v2, v3, v4] 30 (0, 0)) ∧ (∀ k, k ≠ B → W5.heap[k]? = w.heap[k]?) ∧ (∀ (W0 : World), Below W0.heap.size W0 w → W0.heap.size ≤ B → Below W0.heap.size W0 W5) := by
  subst hW
  unfold rn0 at h
  refine ⟨by rw [setBlk (setBlk (setBlk (setBlk h 0 _) 1 _) 2 _) 3 _]; rfl, fun k hk => by rw [Below.heap_setCell _ _ _ k hk, Below.heap_setCell _ _ _ k hk, Below.heap_setCell _ _ _ k hk, Below.heap_setCell _ _ _ k hk], fun W0 hB h0 => (((hB.setCell (p := ⟨B, 0, none⟩) h0 _).setCell (p := ⟨B, 1, none⟩) h0 _).setCell (p := ⟨B, 2, none⟩) h0 _).setCell (p := ⟨B, 3, none⟩) h0 _⟩
section
variable {W : World} {U : Nat → Prop} {q : Rc} {vc vl : Value} {s : Rs}
set_option maxRecDepth 100000 in
set_option maxHeartbeats 4000000 in
theorem Run_none (h : Rm W U q vc vl nilS s) (h1 : s.cls.length ≤ 100000) (h2 : s.lg.length ≤ 100000) (h3 : s.ws.length ≤ 100000) :
    Calls Tryz.prog 39 #[.pointer (some ⟨q.b, 0, none⟩), .slice none 0 0] W fun e w' => ∃ v1 v2 v4, e = .returned (runV v1 v2 (.slice none 0 0) v4) ∧ Has w' (fun k => W.heap.size ≤ k) 90 9 v1 s.cls.length (clc s.cls) ∧ Has w' (fun k => W.heap.size ≤ k) 94 7 v2 s.lg.length (lgc s.lg) ∧ Has w' (fun k => W.heap.size ≤ k) 92 1 v4 s.ws.length (wrd s.ws) ∧ Below W.heap.size W w' := by
  have hB0 : Below W.heap.size W (W.alloc rn0) := (Below.refl _ _).alloc (Nat.le_refl _) _
  have T := Told_any (h.below hB0) h1 h2 h3
  have hsz : (W.alloc rn0).heap.size = W.heap.size + 1 := World.size_alloc _ _
  have hbx : (W.alloc rn0).heap[W.heap.size]? = some rn0 := heap_alloc_new W rn0
  obtain ⟨W1, hW1⟩ : ∃ W1, W.alloc rn0 = W1 := ⟨_, rfl⟩
  rw [hW1] at hB0 T hsz hbx
  unfold rn0 at hW1
  replace T := Mr.hid T
  replace hB0 := Mr.hid hB0
  replace hbx := Mr.hid hbx
  replace hsz := Mr.hid hsz
  clear h
  go_enter Tryz.func39, Tryz.ntmps39
  go_wp2
  replace hW1 := Mr.hid hW1
  go_loopg [9] 0 (fun k z wy => z = .int .i64 0 ∧ wy = W1)
  case atStart => exact ⟨rfl, rfl⟩
  case round =>
    obtain ⟨rfl, rfl⟩ := hrel
    go_wp2_with (go_at_call 21; refine T.out.mono ?_; clear T; rintro e w2 ⟨v1, v2, v4, rfl, k1, k2, k4, k5⟩; have hb2 : w2.heap[W.heap.size]? = some rn0 := (k5.block _ (by have := hsz.out; omega)).trans hbx.out; obtain ⟨x0, x1, x2, x3, xf⟩ := rn0_cells hb2; obtain ⟨p1, q1, rfl, _⟩ := k1.form; obtain ⟨p2, q2, rfl, _⟩ := k2.form; obtain ⟨p4, q4, rfl, _⟩ := k4.form; unfold runV; replace k1 := Mr.hid k1; replace k2 := Mr.hid k2; replace k4 := Mr.hid k4; replace k5 := Mr.hid k5; replace hb2 := Mr.hid hb2)
    obtain ⟨W5, hW5⟩ : ∃ W5, (((w2.setCell ⟨W.heap.size, 0, none⟩ (.slice p1 s.cls.length q1)).setCell ⟨W.heap.size, 1, none⟩ (.slice p2 s.lg.length q2)).setCell ⟨W.heap.size, 2, none⟩ (.slice none 0 0)).setCell ⟨W.heap.size, 3, none⟩ (.slice p4 s.ws.length q4) = W5 := ⟨_, rfl⟩
    rw [hW5]
    obtain ⟨r1, r2, r3⟩ := run_stored hb2.out _ _ _ _ W5 hW5
    have c0 : W5.cell? ⟨W.heap.size, 0, none⟩ = some (.slice p1 s.cls.length q1) := by simp [World.cell?, r1]
    have c1 : W5.cell? ⟨W.heap.size, 1, none⟩ = some (.slice p2 s.lg.length q2) := by simp [World.cell?, r1]
    have c2 : W5.cell? ⟨W.heap.size, 2, none⟩ = some (.slice none 0 0) := by simp [World.cell?, r1]
    have c3 : W5.cell? ⟨W.heap.size, 3, none⟩ = some (.slice p4 s.ws.length q4) := by simp [World.cell?, r1]
    have hs1 := hsz.out
    have kp : ∀ {e sz n : Nat} {v : Value} {xs : List Value}, Has w2 (fun k => wr.heap.size ≤ k) e sz v n xs → Has W5 (fun k => W.heap.size ≤ k) e sz v n xs := fun hh => hh.kept (fun k hk => r2 k (by have := (hh.lt k hk).1; omega)) (fun k hk => by have := (hh.lt k hk).1; omega)
    refine bodyPost_ret (v := runV (.slice p1 s.cls.length q1) (.slice p2 s.lg.length q2) (.slice none 0 0) (.slice p4 s.ws.length q4)) (by simp [runV, results, Tryz.results39, go_sem, c0, c1, c2, c3]) rfl ?_
    exact ⟨_, _, _, rfl, kp k1.out, kp k2.out, kp k4.out, r3 W (hB0.out.trans (k5.out.mono (by omega))) (Nat.le_refl _)⟩
end
theorem cf_box {W : World} {B : Nat} {c : Cf} (h : W.heap[B]? = some (.cells #[.int .i64 c.a0, .int .i64 c.a1, .int .i64 c.a2, .int .i64 c.a3, .int .i64 c.a4, .int .i64 c.a5, .int .i64 c.a6] 23 (0, 0))) : W.cell? ⟨B, 0, none⟩ = some (.int .i64 c.a0) ∧ W.cell? ⟨B, 1, none⟩ = some (.int .i64 c.a1) ∧ W.cell? ⟨B, 2, none⟩ = some (.int .i64 c.a2) ∧ W.cell? ⟨B, 3, none⟩ = some (.int .i64 c.a3) ∧ W.cell? ⟨B, 4, none⟩ = some (.int .i64 c.a4) ∧ W.cell? ⟨B, 5, none⟩ = some (.int .i64 c.a5) ∧ W.cell? ⟨B, 6, none⟩ = some (.int .i64 c.a6) := by
  simp [World.cell?, h]
set_option maxRecDepth 100000 in
set_option maxHeartbeats 4000000 in
theorem Play4_bad (W : World) (c : Cf) (hc : c.ok = false) (am : Option Addr) (nm cm : Nat) :
    Calls Tryz.prog 8 #[c.val, .slice am nm cm] W fun e w' => e = .returned (.tuple #[runV (.slice none 0 0) (.slice none 0 0) (.slice none 0 0) (.slice none 0 0), .int .i64 1]) ∧ Below W.heap.size W w' := by
  have hc' : cfgB c.a0 c.a1 c.a2 c.a3 c.a4 c.a5 c.a6 = false := hc
  have CF := fun w => refConfig c.a0 c.a1 c.a2 c.a3 c.a4 c.a5 c.a6 w
  simp only [hc'] at CF
  obtain ⟨O, hO⟩ : ∃ O : Obj, O = .cells #[.int .i64 c.a0, .int .i64 c.a1, .int .i64 c.a2, .int .i64 c.a3, .int .i64 c.a4, .int .i64 c.a5, .int .i64 c.a6] 23 := ⟨_, rfl⟩
  have hb2 : ((W.alloc O).alloc (.cells #[.slice none 0 0, .slice none 0 0, .slice none 0 0, .slice none 0 0] 30)).heap[W.heap.size + 1]? = some rn0 := by have := heap_alloc_new (W.alloc O) rn0; rwa [World.size_alloc] at this
  have hB2 : Below W.heap.size W ((W.alloc O).alloc (.cells #[.slice none 0 0, .slice none 0 0, .slice none 0 0, .slice none 0 0] 30)) := ((Below.refl _ _).alloc (Nat.le_refl _) _).alloc (by simp) _
  have hs2 : ((W.alloc O).alloc (.cells #[.slice none 0 0, .slice none 0 0, .slice none 0 0, .slice none 0 0] 30)).heap.size = W.heap.size + 1 + 1 := by simp
  rw [hO] at hb2 hB2 hs2
  unfold Cf.val
  replace CF := Mr.hid CF
  replace hb2 := Mr.hid hb2
  replace hB2 := Mr.hid hB2
  replace hs2 := Mr.hid hs2
  clear hc hc' hO O
  go_enter Tryz.func8, Tryz.ntmps8
  go_wp2_with (go_at_call 12; refine (CF.out _).mono ?_; clear CF; rintro e w1 ⟨rfl, hB1⟩; have hb1 : w1.heap[W.heap.size + 1]? = some rn0 := (hB1.block _ (by rw [hs2.out]; omega)).trans hb2.out; obtain ⟨x0, x1, x2, x3, xf⟩ := rn0_cells hb1; replace hB1 := Mr.hid hB1; replace hb1 := Mr.hid hb1)
  obtain ⟨W5, hW5⟩ : ∃ W5, (((w1.setCell ⟨W.heap.size + 1, 0, none⟩ (.slice none 0 0)).setCell ⟨W.heap.size + 1, 1, none⟩ (.slice none 0 0)).setCell ⟨W.heap.size + 1, 2, none⟩ (.slice none 0 0)).setCell ⟨W.heap.size + 1, 3, none⟩ (.slice none 0 0) = W5 := ⟨_, rfl⟩
  rw [hW5]
  obtain ⟨r1, r2, r3⟩ := run_stored hb1.out _ _ _ _ W5 hW5
  have c0 : W5.cell? ⟨W.heap.size + 1, 0, none⟩ = some (.slice none 0 0) := by simp [World.cell?, r1]
  have c1 : W5.cell? ⟨W.heap.size + 1, 1, none⟩ = some (.slice none 0 0) := by simp [World.cell?, r1]
  have c2 : W5.cell? ⟨W.heap.size + 1, 2, none⟩ = some (.slice none 0 0) := by simp [World.cell?, r1]
  have c3 : W5.cell? ⟨W.heap.size + 1, 3, none⟩ = some (.slice none 0 0) := by simp [World.cell?, r1]
  refine bodyPost_ret (v := .tuple #[runV (.slice none 0 0) (.slice none 0 0) (.slice none 0 0) (.slice none 0 0), .int .i64 1]) (by simp [runV, results, Tryz.results8, go_sem, c0, c1, c2, c3]) rfl ?_
  exact ⟨rfl, r3 W (hB2.out.trans (hB1.out.mono (by rw [hs2.out]; omega))) (Nat.le_succ _)⟩
set_option maxRecDepth 100000 in
set_option maxHeartbeats 4000000 in
theorem Play4_none (W : World) (c : Cf) (hc : c.ok = true) (nt nr ns N : Nat) (h0 : c.a0 = nt) (h1 : c.a1 = nr) (h5 : c.a5 = ns) (hN : base c.a1 c.a2 c.a5 c.a6 14 = (N : Int)) (hN8 : N ≤ 8192) :
    Calls Tryz.prog 8 #[c.val, .slice none 0 0] W fun e w' => ∃ v1 v2 v4, e = .returned (.tuple #[runV v1 v2 (.slice none 0 0) v4, .int .i64 0]) ∧ Has w' (fun k => W.heap.size ≤ k) 90 9 v1 0 [] ∧ Has w' (fun k => W.heap.size ≤ k) 94 7 v2 0 [] ∧ Has w' (fun k => W.heap.size ≤ k) 92 1 v4 N (wrd (fws c N)) ∧ Below W.heap.size W w' := by
  have hc' : cfgB c.a0 c.a1 c.a2 c.a3 c.a4 c.a5 c.a6 = true := hc
  have CF := fun w => refConfig c.a0 c.a1 c.a2 c.a3 c.a4 c.a5 c.a6 w
  simp only [hc'] at CF
  have hu1 : (0 : Int) ≤ c.a5 := by omega
  have MA := fun w => Machine4_any w c hc nt nr ns N h0 h1 h5 hN 0 (Int.le_refl _) hu1
  have RN : ∀ (w w2 : World) (q : Rc), Mq0 w w2 q c 0 nt nr ns N → Calls Tryz.prog 39 #[.pointer (some ⟨q.b, 0, none⟩), .slice none 0 0] w2 fun e w' => ∃ v1 v2 v4, e = .returned (runV v1 v2 (.slice none 0 0) v4) ∧ Has w' (fun k => w2.heap.size ≤ k) 90 9 v1 0 [] ∧ Has w' (fun k => w2.heap.size ≤ k) 94 7 v2 0 [] ∧ Has w' (fun k => w2.heap.size ≤ k) 92 1 v4 N (wrd (fws c N)) ∧ Below w2.heap.size w2 w' := fun w w2 q h => by
    have hl : (fwsU c 0 N).length = N := fwsU_len c 0 N
    have := Run_none h.1 (by simp) (by simp) (by show (fwsU c 0 N).length ≤ _; rw [hl]; omega)
    refine this.mono ?_
    rintro e w' ⟨v1, v2, v4, rfl, k1, k2, k4, k5⟩
    refine ⟨v1, v2, v4, rfl, k1, k2, ?_, k5⟩
    have k6 : Has w' (fun k => w2.heap.size ≤ k) 92 1 v4 (fwsU c 0 N).length (wrd (fwsU c 0 N)) := k4
    rw [hl] at k6
    exact k6
  obtain ⟨O, hO⟩ : ∃ O : Obj, O = .cells #[.int .i64 c.a0, .int .i64 c.a1, .int .i64 c.a2, .int .i64 c.a3, .int .i64 c.a4, .int .i64 c.a5, .int .i64 c.a6] 23 := ⟨_, rfl⟩
  have hb2 : ((W.alloc O).alloc (.cells #[.slice none 0 0, .slice none 0 0, .slice none 0 0, .slice none 0 0] 30)).heap[W.heap.size + 1]? = some rn0 := by have := heap_alloc_new (W.alloc O) rn0; rwa [World.size_alloc] at this
  have hb0 : ((W.alloc O).alloc (.cells #[.slice none 0 0, .slice none 0 0, .slice none 0 0, .slice none 0 0] 30)).heap[W.heap.size]? = some O := (Below.heap_alloc _ _ _ (by simp)).trans (heap_alloc_new W O)
  have hB2 : Below W.heap.size W ((W.alloc O).alloc (.cells #[.slice none 0 0, .slice none 0 0, .slice none 0 0, .slice none 0 0] 30)) := ((Below.refl _ _).alloc (Nat.le_refl _) _).alloc (by simp) _
  have hs2 : ((W.alloc O).alloc (.cells #[.slice none 0 0, .slice none 0 0, .slice none 0 0, .slice none 0 0] 30)).heap.size = W.heap.size + 1 + 1 := by simp
  rw [hO] at hb2 hB2 hs2 hb0
  have hcv : c.val = .agg #[.int .i64 c.a0, .int .i64 c.a1, .int .i64 c.a2, .int .i64 c.a3, .int .i64 c.a4, .int .i64 c.a5, .int .i64 c.a6] := rfl
  rw [hcv]
  simp only [hcv] at MA
  replace CF := Mr.hid CF
  replace MA := Mr.hid MA
  replace RN := Mr.hid RN
  replace hb2 := Mr.hid hb2
  replace hb0 := Mr.hid hb0
  replace hB2 := Mr.hid hB2
  replace hs2 := Mr.hid hs2
  clear hc hc' hO O h0 h1 h5 hN hcv hu1
  go_enter Tryz.func8, Tryz.ntmps8
  go_wp2_with (first
    | (go_at_call 12; refine (CF.out _).mono ?_; clear CF; rintro e w1 ⟨rfl, hB1⟩; have hb1 : w1.heap[W.heap.size + 1]? = some rn0 := (hB1.block _ (by rw [hs2.out]; omega)).trans hb2.out; have hbc : w1.heap[W.heap.size]? = _ := (hB1.block _ (by rw [hs2.out]; omega)).trans hb0.out; obtain ⟨y0, y1, y2, y3, y4, y5, y6⟩ := cf_box hbc; have hB01 := Mr.hid (hB2.out.trans (hB1.mono (by rw [hs2.out]; omega))); replace hb1 := Mr.hid hb1; clear hB1 hbc)
    | (go_at_call 16; refine (MA.out _).mono ?_; clear MA; rintro e w2 ⟨q, rfl, M2⟩; have hB12 := M2.2.2.2.2.2.2.2.2.2.2.2.2.2.2.2.2; have hl1 : W.heap.size + 1 < w1.heap.size := (Array.getElem?_eq_some_iff.1 hb1.out).1; have hbb2 : w2.heap[W.heap.size + 1]? = some rn0 := (hB12.block _ hl1).trans hb1.out; have RN2 := Mr.hid (RN.out _ w2 q M2); have hB02 := Mr.hid (hB01.out.trans (hB12.mono hB01.out.size)); replace hbb2 := Mr.hid hbb2; clear M2 RN hB12)
    | (go_at_call 39; refine RN2.out.mono ?_; clear RN2; rintro e w3 ⟨v1, v2, v4, rfl, k1, k2, k4, k5⟩; have hl2 : W.heap.size + 1 < w2.heap.size := (Array.getElem?_eq_some_iff.1 hbb2.out).1; have hb3 : w3.heap[W.heap.size + 1]? = some rn0 := (k5.block _ hl2).trans hbb2.out; obtain ⟨x0, x1, x2, x3, xf⟩ := rn0_cells hb3; obtain ⟨p1, q1, rfl, _⟩ := k1.form; obtain ⟨p2, q2, rfl, _⟩ := k2.form; obtain ⟨p4, q4, rfl, _⟩ := k4.form; unfold runV; replace k1 := Mr.hid k1; replace k2 := Mr.hid k2; replace k4 := Mr.hid k4; replace k5 := Mr.hid k5; replace hb3 := Mr.hid hb3))
  obtain ⟨W5, hW5⟩ : ∃ W5, (((w3.setCell ⟨W.heap.size + 1, 0, none⟩ (.slice p1 0 q1)).setCell ⟨W.heap.size + 1, 1, none⟩ (.slice p2 0 q2)).setCell ⟨W.heap.size + 1, 2, none⟩ (.slice none 0 0)).setCell ⟨W.heap.size + 1, 3, none⟩ (.slice p4 N q4) = W5 := ⟨_, rfl⟩
  rw [hW5]
  obtain ⟨r1, r2, r3⟩ := run_stored hb3.out _ _ _ _ W5 hW5
  have c0 : W5.cell? ⟨W.heap.size + 1, 0, none⟩ = some (.slice p1 0 q1) := by simp [World.cell?, r1]
  have c1 : W5.cell? ⟨W.heap.size + 1, 1, none⟩ = some (.slice p2 0 q2) := by simp [World.cell?, r1]
  have c2 : W5.cell? ⟨W.heap.size + 1, 2, none⟩ = some (.slice none 0 0) := by simp [World.cell?, r1]
  have c3 : W5.cell? ⟨W.heap.size + 1, 3, none⟩ = some (.slice p4 N q4) := by simp [World.cell?, r1]
  have kp : ∀ {e sz n : Nat} {v : Value} {xs : List Value}, Has w3 (fun k => w2.heap.size ≤ k) e sz v n xs → Has W5 (fun k => W.heap.size ≤ k) e sz v n xs := fun hh => hh.kept (fun k hk => r2 k (by have := (hh.lt k hk).1; omega)) (fun k hk => by have := (hh.lt k hk).1; omega)
  refine bodyPost_ret (v := .tuple #[runV (.slice p1 0 q1) (.slice p2 0 q2) (.slice none 0 0) (.slice p4 N q4), .int .i64 0]) (by simp [runV, results, Tryz.results8, go_sem, c0, c1, c2, c3]) rfl ?_
  exact ⟨_, _, _, rfl, kp k1.out, kp k2.out, kp k4.out, r3 W (hB02.out.trans (k5.out.mono hB02.out.size)) (Nat.le_succ _)⟩
end Go.Proofs.YtkimmfdicohoiaaGreat.Rf
