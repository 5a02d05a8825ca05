import Derived.Test.YtmmjdlbeiaoojaaGreatArTab
import Derived.Test.YtmmjdlbeiaoojaaGreatArWholeP
import Derived.BigQuiet
/-
  spares of reclaimlaw04, by its contract.
-/
namespace Go.Proofs.YtmmjdlbeiaoojaaGreat.Ar
open Go.RowKit Go.Shelf Mr Me Ma Wc Wm Wr
set_option maxRecDepth 100000 in
set_option maxHeartbeats 2000000 in
theorem spares_any {W : World} {S : Nat → Prop} {av : Option Addr} {N cap b : Nat} {P : Pa} (c : Cf) (hc : c.ok = true) (n m : Nat) (h5 : c.a5 = n) (hn2 : n ≤ 1024) (hN : base c.a1 c.a2 c.a5 c.a6 14 = (N : Int)) (hm10 : base c.a1 c.a2 c.a5 c.a6 10 = (m : Int)) (hPm : P.m = m) (hwl : P.ws.length = N) (hmn : m + n ≤ N) (hN0 : 0 < N) (hN1 : N ≤ 65536)
    (hv : Has W S 44 1 (.slice av N cap) N (wrd P.ws)) (hI : Inv P b) (l : List Int) (hl : Chn (sp P) l (P.word 0 % 4294967296)) (hll : l.length ≤ n) (hlm : ∀ s ∈ l, 0 ≤ s ∧ s < n) :
    Calls Tryz.prog 28 #[c.val, .slice av N cap] W fun e w' => ∃ v', e = .returned (.tuple #[v', .bool true]) ∧ Has w' (fun k => W.heap.size ≤ k) 3 1 v' l.length (ints l) ∧ Below W.heap.size W w' := by
  have hc' : cfgB c.a0 c.a1 c.a2 c.a3 c.a4 c.a5 c.a6 = true := hc
  have SZ := fun W => refSize c.a0 c.a1 c.a2 c.a3 c.a4 c.a5 c.a6 W (ok_of hc')
  have BS := fun W => refBase_i c.a0 c.a1 c.a2 c.a3 c.a4 c.a5 c.a6 10 W (ok_of hc') (by omega) (by omega)
  rw [hN] at SZ
  rw [show ((10 : Int).toNat) = 10 from rfl, hm10] at BS
  obtain ⟨g, qq, hg, _, hgl, hgn, hgx⟩ := hv.there hN0
  cases hg
  unfold maxLen at hgx
  have cW : ∀ (W' : World), Below W.heap.size W W' → ∀ j : Nat, j < N → W'.cell? ⟨g, j, none⟩ = some (.int .u64 (P.word j)) := fun W' hB j hj => by
    have h1 := (hv.below hB).cells (g := g) rfl j (.int .u64 (P.word j)) (by
      rw [wrd, List.getElem?_map, List.getElem?_eq_getElem (by omega)]
      simp [Pa.word, List.getElem?_eq_getElem (show j < P.ws.length by omega)])
    exact h1
  have hx0 : (P.word 0).tmod 4294967296 = P.word 0 % 4294967296 := Int.tmod_eq_emod_of_nonneg (hI.word 0).1
  have hsp : ∀ s : Nat, sp P (s : Int) = P.word (m + s) := fun s => by simp [sp, Pa.spare, hPm]
  obtain ⟨i0, hi0, hz0, hz1, hz2⟩ := info_parts info_i
  generalize P.word 0 % 4294967296 = x0 at *
  clear hI hv hm10 hN hwl hc hc' hPm
  obtain ⟨W0, hW0⟩ : ∃ W0, W.alloc (cfO c) = W0 := ⟨_, rfl⟩
  have b0 : Bt W c W0 := by
    rw [← hW0]
    exact ⟨heap_alloc_new W _, (Below.refl _ _).alloc (Nat.le_refl _) _⟩
  have s0 : W0.heap.size = W.heap.size + 1 := by rw [← hW0]; simp
  obtain ⟨y0, y1, y2, y3, y4, y5, y6⟩ := b0.cfg
  unfold cfO at hW0
  unfold Cf.val
  replace SZ := Mr.hid SZ
  replace BS := Mr.hid BS
  replace b0 := Mr.hid b0
  replace cW := Mr.hid cW
  replace hlm := Mr.hid hlm
  replace hl := Mr.hid hl
  replace hsp := Mr.hid hsp
  replace h5 := Mr.hid h5
  replace hll := Mr.hid hll
  go_enter Tryz.func28, Tryz.ntmps28
  go_wp2_with (go_at_call 53; refine (SZ.out _).mono ?_; clear SZ; rintro e w1 ⟨rfl, hB1⟩; have b1 := b0.out.below (hB1.mono (by omega)); clear y0 y1 y2 y3 y4 y5 y6; obtain ⟨y0, y1, y2, y3, y4, y5, y6⟩ := b1.cfg; have z0 := cW.out w1 b1.b 0 hN0; have lz := b1.lt; replace b1 := Mr.hid b1; clear hB1)
  clear y0 y1 y2 y3 y4 y5 y6 z0 lz b0 hW0 s0
  go_loopg [6, 7] l.length (fun k s6 s7 wr => ∃ (l1 l2 : List Int) (x : Int), s7 = .int .u64 x ∧ l1 ++ l2 = l ∧ l2.length = k ∧ Chn (sp P) l2 x ∧ Has wr (fun k => W.heap.size < k) 3 1 s6 l1.length (ints l1) ∧ Bt W c wr)
  case atStart => exact ⟨[], l, x0, rfl, rfl, rfl, hl.out, Has.nil _ _ _ _, b1.out⟩
  case round =>
    obtain ⟨l1, l2, x, rfl, hl12, hk, hch, hrow, hb⟩ := hrel
    clear b1
    obtain ⟨pv, qv, rfl, hpq⟩ := hrow.form
    obtain ⟨y0, y1, y2, y3, y4, y5, y6⟩ := hb.cfg
    have lz := hb.lt
    have hl1 : l1.length ≤ n := by
      have := hll.out
      rw [← hl12, List.length_append] at this
      omega
    cases l2 with
    | nil =>
      have hx : x = 0 := hch
      subst hx
      have e1 : l1 = l := by rw [← hl12]; simp
      subst e1
      have d1 : decide ((l1.length : Int) ≤ c.a5) = true := decide_eq_true (by rw [h5.out]; omega)
      replace hrow := Mr.hid hrow
      replace hb := Mr.hid hb
      go_wp2
      go_quiet (fail)
      go_wp2
      go_ret2
      refine ⟨_, rfl, ?_, hb.out.b.trans (Bx.draws _ _ _)⟩
      exact (hrow.out.mono (fun k hk => Nat.le_of_lt hk)).below (Bx.draws _ _ _)
    | cons s l2 =>
      obtain ⟨hx, hch2⟩ := hch
      have hsb := hlm.out s (by rw [← hl12]; simp)
      obtain ⟨sn, rfl⟩ : ∃ sn : Nat, s = sn := ⟨s.toNat, by omega⟩
      subst hx
      have hsn : sn < n := by omega
      have d0 : (((sn : Int) + 1) == 0) = false := by simp; omega
      have d0' : (((sn : Int) + 1) != 0) = true := by simp; omega
      have d1 : decide (c.a5 ≤ (sn : Int)) = false := decide_eq_false (by rw [h5.out]; omega)
      have d2 : decide (c.a5 < (l1.length : Int)) = false := decide_eq_false (by rw [h5.out]; omega)
      have law := fun o : Obj => hrow.alloc o
      have hS := fun o : Obj => (show W.heap.size < (wr.alloc o).heap.size by simp; omega)
      have fin : ∀ (o : Obj) (w5 : World) (g5 cap5 : Nat), Has w5 (fun k => W.heap.size < k) 3 1 (.slice (some ⟨g5, 0, none⟩) (l1.length + 1) cap5) (l1.length + 1) (ints l1 ++ [.int .i64 (sn : Int)]) → (wr.alloc o).grownBy w5 (Value.slice pv l1.length qv).ownBlock → Has w5 (fun k => W.heap.size < k) 3 1 (.slice (some ⟨g5, 0, none⟩) (l1 ++ [(sn : Int)]).length cap5) (l1 ++ [(sn : Int)]).length (ints (l1 ++ [(sn : Int)])) ∧ Bt W c w5 := fun o w5 g5 cap5 hown hgrow => by
        refine ⟨?_, hb.below ((((Below.refl (W.heap.size + 1) wr).alloc hb.lt o)).grown hgrow (by simp; omega) (fun k hk => by have := (hrow.lt k hk).1; omega))⟩
        rw [List.length_append, show (ints (l1 ++ [(sn : Int)])) = ints l1 ++ [.int .i64 (sn : Int)] from by simp [ints]]
        exact hown
      have d3 : (m : Int) + (sn : Int) < (N : Int) := by omega
      have hword := hsp.out sn
      rw [hword] at hch2
      have hq3 : m + sn < N := by omega
      replace law := Mr.hid law
      replace fin := Mr.hid fin
      replace hrow := Mr.hid hrow
      replace hb := Mr.hid hb
      replace hch2 := Mr.hid hch2
      replace hword := Mr.hid hword
      replace hS := Mr.hid hS
      go_wp2_with (first | (at_builtin; refine wpList_append_has _ rfl (.tmp 34) (.tmp 36) 45 rfl (fun k => W.heap.size < k) 3 i0 _ 1 8 Tryz.underlying45 hi0 hz0 hz1 hz2 rfl (.slice pv l1.length qv) l1.length (ints l1) rfl (law.out _) ⟨wr.heap.size, 0, none⟩ 1 1 [.int .i64 (sn : Int)] rfl rfl (newsAt wr _ #[.int .i64 (sn : Int)] 3 _ rfl rfl) (by simp [Value.oneCell']) (by omega) (by unfold maxLen; omega) (by omega) (hS.out _) ?_; intro g5 cap5 w5 hown hgrow hat; obtain ⟨q1', q2'⟩ := fin.out _ w5 g5 cap5 hown hgrow; clear fin hown hgrow law hS hat; clear y0 y1 y2 y3 y4 y5 y6; obtain ⟨y0, y1, y2, y3, y4, y5, y6⟩ := q2'.cfg; replace q1' := Mr.hid q1'; replace q2' := Mr.hid q2') | (go_at_call 56; refine (BS.out _).mono ?_; rintro e w6 ⟨rfl, hB6⟩; have b6 := q2'.out.below (hB6.mono q2'.out.lt); have z1 := cW.out w6 b6.b (m + sn) hq3; have r6 := q1'.out.below hB6; have lz6 := b6.lt; replace b6 := Mr.hid b6; replace r6 := Mr.hid r6; clear hB6))
      go_roundg l2.length
      case measure => simp at hk; omega
      case rel => exact ⟨l1 ++ [(sn : Int)], l2, P.word (m + sn), rfl, by rw [← hl12]; simp, rfl, hch2.out, by simpa using r6.out, b6.out⟩
end Go.Proofs.YtmmjdlbeiaoojaaGreat.Ar
