import Derived.Test.YtkimmfdicohoiaaRfCode4B
import Derived.Test.YtkimmfdicohoiaaRfAcc
import Derived.Test.YtkimmfdicohoiaaRfFresh
import Derived.Deep.RegionHeldLaw
import Derived.Test.YtkimmfdicohoiaaMacRepeat
import Derived.Test.YtkimmfdicohoiaaMacRep
import Derived.Deep.RegionHeld3
import Derived.Test.YtkimmfdicohoiaaMemNote
import Derived.RangeFuncNested
import Derived.RangeFuncBound
import Derived.RangeFuncCalls
import Derived.RangeFuncLeaves
import Derived.Shelf.Abstract
import Derived.Shelf.RegionOpen
import Derived.OwnWalkIn
import Derived.TacticsInMore
import Derived.LoopNIn
import Derived.LoopIn
import Derived.Test.YtkimmfdicohoiaaArNew
import Derived.Test.YtkimmfdicohoiaaMemNew
import Derived.Test.YtkimmfdicohoiaaArPure
import Derived.Test.YtkimmfdicohoiaaWordFstAll
import Derived.Test.YtkimmfdicohoiaaWordFstRefAll
import Derived.Test.YtkimmfdicohoiaaArKa
/-
  THE DOCUMENT's ARENA: its machine at the beginning.
-/
namespace Go.Proofs.Ytkimmfdicohoiaa.Rf
open Go.RowKit Mr Me Ma Ar Wc Wm Wr
set_option linter.unusedVariables false
/-- The first words, so many slots used. -/
def fwsU (c : Cf) (u : Int) (N : Nat) : List Int := (List.range N).map (fstF c.a1 c.a2 c.a5 c.a6 u)
theorem fwsU_len (c : Cf) (u : Int) (N : Nat) : (fwsU c u N).length = N := by simp [fwsU]
theorem fwsU_get (c : Cf) (u : Int) (N j : Nat) (hj : j < N) : (fwsU c u N)[j]? = some (fstF c.a1 c.a2 c.a5 c.a6 u j) := by simp [fwsU, hj]
theorem src_firstU {w : World} {b N : Nat} (c : Cf) (u : Int) (h : Row w b N (fstF c.a1 c.a2 c.a5 c.a6 u)) : Src w (some ⟨b, 0, none⟩) N N (fwsU c u N) := by
  refine ⟨(fwsU_len c u N).symm, .inr ⟨_, rfl, fun j v hv => ?_⟩⟩
  have hadd : (⟨b, 0, none⟩ : Addr).add j = ⟨b, j, none⟩ := by unfold Addr.add; split <;> simp_all
  have hj : j < N := by have := (List.getElem?_eq_some_iff.1 hv).1; rw [wrd_length, fwsU_len] at this; exact this
  rw [hadd, h.cell j hj]
  unfold wrd at hv
  rw [List.getElem?_map, fwsU_get c u N j hj] at hv
  exact hv
theorem code4_labels : ∀ I ∈ code4, I.kd = 10 → ∃ l : Nat, I.a = l ∧ l ≤ 1000 := by
  intro I hI hk
  have h : ∀ J ∈ code4, J.kd = 10 → (0 ≤ J.a ∧ J.a ≤ 1000) := by decide
  obtain ⟨h0, h1⟩ := h I hI hk
  exact ⟨I.a.toNat, by omega, by omega⟩
/-- The document's machine of an arena, at the beginning. -/
def Mq0 (W w' : World) (q : Rc) (c : Cf) (u : Int) (nt nr ns N : Nat) : Prop :=
  Rm w' (fun k => W.heap.size ≤ k ∧ k < w'.heap.size) q nilS nilS nilS ⟨fwsU c u N, List.replicate nt rt0, 0, [], []⟩ ∧ q.code = code4 ∧ q.labs = labsOf code4 58 ∧ q.ens = ens4 ∧ q.c0 = (nt : Int) ∧ q.c1 = (nr : Int) ∧ q.c2 = c.a2 ∧ q.c3 = c.a3 ∧ q.c4 = c.a4 ∧ q.c5 = (ns : Int) ∧ q.c6 = c.a6 ∧ q.nt = nt ∧
  Has w' (fun k => W.heap.size ≤ k) 38 1 q.vst ns (nums (stsOf u ns)) ∧ Has w' (fun k => W.heap.size ≤ k) 3 1 q.vho ns (nums (List.replicate ns (-1))) ∧ Has w' (fun k => W.heap.size ≤ k) 51 1 q.vli nr (List.replicate nr nilS) ∧ (∀ k, q.vlb.ownBlock = some k → q.vho.ownBlock ≠ some k) ∧ Below W.heap.size W w'
set_option maxRecDepth 100000 in
set_option maxHeartbeats 4000000 in
theorem Machine4_any (W : World) (c : Cf) (hc : c.ok = true) (nt nr ns N : Nat) (h0 : c.a0 = nt) (h1 : c.a1 = nr) (h5 : c.a5 = ns) (hN : base c.a1 c.a2 c.a5 c.a6 14 = (N : Int)) (u : Int) (hu0 : 0 ≤ u) (hu1 : u ≤ c.a5) :
    Calls Try.prog 7 #[c.val, .int .i64 u] W fun e w' => ∃ q, e = .returned (.pointer (some ⟨q.b, 0, none⟩)) ∧ Mq0 W w' q c u nt nr ns N := by
  have hc' : cfgB c.a0 c.a1 c.a2 c.a3 c.a4 c.a5 c.a6 = true := hc
  have FS := fun w => refFirst_all c.a0 c.a1 c.a2 c.a3 c.a4 c.a5 c.a6 u N w (ok_of hc') hN hu0 hu1
  obtain ⟨p1, p2, p3, p4, p5, p6, p7, p8⟩ := ok_of hc'
  have hq : inB c.a0 1 16 = true := by
    simp only [cfgB, Bool.and_eq_true] at hc'
    exact hc'.1.1.1.1.1.1
  have q0 := inB_iff hq
  have hN8 : N ≤ 8192 := by
    have hb : base c.a1 c.a2 c.a5 c.a6 14 = 6 + c.a6 + c.a1 + c.a1 * c.a2 + 4 * c.a5 := base14 _ _ _ _
    have : c.a1 * c.a2 ≤ 16 * 8 := Int.mul_le_mul p2 p4 (by omega) (by omega)
    omega
  have hcv : c.val = .agg #[.int .i64 (nt : Int), .int .i64 (nr : Int), .int .i64 c.a2, .int .i64 c.a3, .int .i64 c.a4, .int .i64 (ns : Int), .int .i64 c.a6] := by unfold Cf.val; rw [h0, h1, h5]
  rw [hcv]
  have FS' : ∀ w, Calls Try.prog 13 #[.agg #[.int .i64 (nt : Int), .int .i64 (nr : Int), .int .i64 c.a2, .int .i64 c.a3, .int .i64 c.a4, .int .i64 (ns : Int), .int .i64 c.a6], .int .i64 u] w fun e w' => ∃ b, e = .returned (.slice (some ⟨b, 0, none⟩) N N) ∧ w.heap.size ≤ b ∧ Src w' (some ⟨b, 0, none⟩) N N (fwsU c u N) ∧ Below w.heap.size w w' := fun w => by
    have := FS w
    rw [h0] at this
    rw [show (nr : Int) = c.a1 from h1.symm, show (ns : Int) = c.a5 from h5.symm]
    refine this.mono ?_
    rintro e w' ⟨b, rfl, h2, h3, h4⟩
    exact ⟨b, rfl, h2, src_firstU c u h3, h4⟩
  obtain ⟨O, hO⟩ : ∃ O : Obj, O = .cells #[.int .i64 (nt : Int), .int .i64 (nr : Int), .int .i64 c.a2, .int .i64 c.a3, .int .i64 c.a4, .int .i64 (ns : Int), .int .i64 c.a6] 23 := ⟨_, rfl⟩
  have BX : ∀ w', Below (W.heap.size + 1) (W.alloc O) w' → w'.cell? ⟨W.heap.size, 0, none⟩ = some (.int .i64 (nt : Int)) ∧ w'.cell? ⟨W.heap.size, 1, none⟩ = some (.int .i64 (nr : Int)) ∧ w'.cell? ⟨W.heap.size, 2, none⟩ = some (.int .i64 c.a2) ∧ w'.cell? ⟨W.heap.size, 3, none⟩ = some (.int .i64 c.a3) ∧ w'.cell? ⟨W.heap.size, 4, none⟩ = some (.int .i64 c.a4) ∧ w'.cell? ⟨W.heap.size, 5, none⟩ = some (.int .i64 (ns : Int)) ∧ w'.cell? ⟨W.heap.size, 6, none⟩ = some (.int .i64 c.a6) := fun w' hB => by
    have e : w'.heap[W.heap.size]? = some O := (hB.block _ (Nat.lt_succ_self _)).trans (heap_alloc_new W O)
    rw [hO] at e
    simp [World.cell?, e]
  have hsO : (W.alloc O).heap.size = W.heap.size + 1 := World.size_alloc _ _
  have hBd : Below (W.heap.size + 1) (W.alloc O) (W.alloc O).drew := (Below.refl _ _).drew
  have X0 := BX _ hBd
  have hB00 : Below W.heap.size W (W.alloc O) := (Below.refl _ _).alloc (Nat.le_refl _) _
  have NWf : ∀ (w1 w2 w3 : World) (b1 g2 cc2 g3 : Nat), Below (W.heap.size + 1) (W.alloc O) w1 → Src w1 (some ⟨b1, 0, none⟩) N N (fwsU c u N) → IsCode w1 w2 (.slice (some ⟨g2, 0, none⟩) 58 cc2) code4 → Below w2.heap.size w2 w3 → Has w3 (fun k => w2.heap.size ≤ k) 80 3 (.slice (some ⟨g3, 0, none⟩) 3 3) 3 (ens4.flatMap En.cells) →
      Calls Try.prog 12 #[.agg #[.int .i64 (nt : Int), .int .i64 (nr : Int), .int .i64 c.a2, .int .i64 c.a3, .int .i64 c.a4, .int .i64 (ns : Int), .int .i64 c.a6], .int .i64 u, .slice (some ⟨b1, 0, none⟩) N N, .slice (some ⟨g2, 0, none⟩) 58 cc2, .slice (some ⟨g3, 0, none⟩) 3 3] w3 fun e w' => ∃ q, e = .returned (.pointer (some ⟨q.b, 0, none⟩)) ∧ Mq0 W w' q c u nt nr ns N ∧ Below w3.heap.size w3 w' := by
    intro w1 w2 w3 b1 g2 cc2 g3 k1 k2 k3 k4 k5
    have k23 : Below w1.heap.size w1 w3 := k3.1.trans (k4.mono k3.1.size)
    have hcd := k3.2.below k4
    refine (New_any w3 nt nr ns u c.a2 c.a3 c.a4 c.a6 (by omega) (by omega) (by omega) _ N N _ (k2.below k23) hN8 hcd code4_labels).mono ?_
    rintro e w' ⟨b, vw, vlb, vt, vst, vho, vli, rfl, m1, m2, m3, m4, m5, m6, m7, m8, m9, m10⟩
    have z1 := k1.size
    have z2 := k3.1.size
    have z3 := k4.size
    have z4 := m1.size
    rw [hsO] at z1
    have hB : Below W.heap.size W w' := ((hB00.trans (k1.mono (by omega))).trans (k23.mono (by omega))).trans (m1.mono (by omega))
    obtain ⟨gt, ct, rfl, hgt, hgl, _, _⟩ := m6.there (by omega)
    have nar : ∀ {S : Nat → Prop} {e sz n : Nat} {v : Value} {xs : List Value}, Has w' S e sz v n xs → (∀ k, S k → W.heap.size ≤ k) → Has w' (fun k => W.heap.size ≤ k ∧ k < w'.heap.size) e sz v n xs := fun hh hS => hh.kept (fun _ _ => rfl) (fun k hk => ⟨hS k (hh.lt k hk).1, (hh.lt k hk).2⟩)
    refine ⟨⟨b, nt, nr, c.a2, c.a3, c.a4, ns, c.a6, vw, .slice (some ⟨g2, 0, none⟩) 58 cc2, vlb, .slice (some ⟨g3, 0, none⟩) 3 3, gt, nt, ct, vst, vho, vli, code4, labsOf code4 58, ens4⟩, rfl, ⟨⟨m3, ?_, ?_, ?_, ?_, ?_, by simp, Has.nil _ _ _ _, Has.nil _ _ _ _, ⟨by show W.heap.size ≤ b; omega, (Array.getElem?_eq_some_iff.1 m3).1⟩, fun k hk => hk.2⟩, rfl, rfl, rfl, rfl, rfl, rfl, rfl, rfl, rfl, rfl, rfl, m7.mono (fun k hk => by omega), m8.mono (fun k hk => by omega), m9.mono (fun k hk => by omega), m10, hB⟩, m1⟩
    · exact nar m4 (fun k hk => by omega)
    · exact nar (hcd.below m1) (fun k hk => by omega)
    · exact nar m5 (fun k hk => by omega)
    · exact nar (k5.below m1) (fun k hk => by omega)
    · exact nar m6 (fun k hk => by omega)
  replace NWf := Mr.hid NWf
  replace BX := Mr.hid BX
  replace FS' := Mr.hid FS'
  replace hBd := Mr.hid hBd
  replace hsO := Mr.hid hsO
  clear FS hcv hB00
  replace hc' := Mr.hid hc'
  replace hc := Mr.hid hc
  replace h0 := Mr.hid h0
  replace h1 := Mr.hid h1
  replace h5 := Mr.hid h5
  replace hN := Mr.hid hN
  clear hu0 hu1
  obtain ⟨x0, x1, x2, x3, x4, x5, x6⟩ := X0
  go_enter Try.func7, Try.ntmps7
  go_wp2_with fail
  rw [← hO]
  replace hO := Mr.hid hO
  go_region_held3 (fun w' => w'.cell? ⟨W.heap.size, 0, none⟩ = some (.int .i64 (nt : Int)) ∧ w'.cell? ⟨W.heap.size, 1, none⟩ = some (.int .i64 (nr : Int)) ∧ w'.cell? ⟨W.heap.size, 2, none⟩ = some (.int .i64 c.a2) ∧ w'.cell? ⟨W.heap.size, 3, none⟩ = some (.int .i64 c.a3) ∧ w'.cell? ⟨W.heap.size, 4, none⟩ = some (.int .i64 c.a4) ∧ w'.cell? ⟨W.heap.size, 5, none⟩ = some (.int .i64 (ns : Int)) ∧ w'.cell? ⟨W.heap.size, 6, none⟩ = some (.int .i64 c.a6)) (first | exact X1.out | exact X2.out | exact X3.out | exact X4.out | go_keep)
    (first
      | (go_at_call 13; refine (FS'.out _).mono ?_; clear FS'; rintro e w1 ⟨b1, rfl, hb1, hsrc, hB1⟩; have hb01 := Mr.hid (hBd.out.trans (hB1.mono (Nat.le_of_eq hsO.out.symm))); have X1 := Mr.hid (BX.out w1 hb01.out); replace hsrc := Mr.hid hsrc; clear hB1 hb1)
      | (go_at_call 14; refine (Code_any _).mono ?_; rintro e w2 ⟨g2, cc2, rfl, I2⟩; have hb02 := Mr.hid (hb01.out.trans (I2.1.mono (by have := hb01.out.size; rw [hsO.out] at this; exact this))); have X2 := Mr.hid (BX.out w2 hb02.out); replace I2 := Mr.hid I2)
      | (go_at_call 15; refine (Entries_any _).mono ?_; rintro e w3 ⟨g3, rfl, hB3, hE3⟩; have hb03 := Mr.hid (hb02.out.trans (hB3.mono (by have := hb02.out.size; rw [hsO.out] at this; exact this))); have X3 := Mr.hid (BX.out w3 hb03.out); replace hE3 := Mr.hid hE3; replace hB3 := Mr.hid hB3)
      | (go_at_call 12; refine (NWf.out w1 w2 w3 b1 g2 cc2 g3 hb01.out hsrc.out I2.out hB3.out hE3.out).mono ?_; clear NWf; rintro e w4 ⟨q, rfl, hq4, hB4⟩; have X4 := Mr.hid (BX.out w4 (hb03.out.trans (hB4.mono (by have := hb03.out.size; rw [hsO.out] at this; exact this)))); replace hq4 := Mr.hid hq4; clear hB4))
  go_wp2
  go_ret
  exact ⟨q, rfl, hq4.out⟩
end Go.Proofs.Ytkimmfdicohoiaa.Rf
