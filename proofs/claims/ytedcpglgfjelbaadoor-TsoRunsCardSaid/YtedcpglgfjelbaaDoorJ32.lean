import Derived.Test.YtedcpglgfjelbaaDoorJ24
import Derived.Test.YtedcpglgfjelbaaDoorJ25
import Derived.Test.YtedcpglgfjelbaaDoorJ26
import Derived.Test.YtedcpglgfjelbaaDoorJ27
import Derived.Test.YtedcpglgfjelbaaDoorJ28
import Derived.Test.YtedcpglgfjelbaaDoorJ29
import Derived.Test.YtedcpglgfjelbaaDoorJ30
import Derived.Test.YtedcpglgfjelbaaDoorJ31
import Derived.Test.YtedcpglgfjelbaaDoorJ23
/-
  TSO: a turn of the document is the pure one.
-/
namespace Go.Proofs.YtedcpglgfjelbaaDoor.Ts
open Go.RowKit Mr
set_option linter.unusedVariables false
set_option linter.unusedSimpArgs false
set_option maxRecDepth 100000
theorem rturn_ins (l : Lt) (s : Sv) (o : Int) (B : Nat) (G : Gs) (aw ah : Option Addr) (nw cw nt ct tk : Nat) (ad0 : Int) (r : Rg) (pc : Nat) (b : List Pd) (w0 w : World) (c : List In) (a : Option Addr) (n k ga qa : Nat) (h : Dp l s o B G ah nw nt tk r pc b w0 w c a n k ga qa) :
    Calls Tryd.prog 20 #[.agg #[.slice aw nw cw, .slice ah nt ct], .int .i64 o, .pointer (some ⟨G.p, 0, none⟩), .agg #[.int .i64 (tk : Int), .bool false, .int .i64 ad0]] w fun e w' => RuP (ins o c (vw s tk)) s tk e (fun s' => Ds w' B G s' nw nt ∧ Below B w w') := by
  by_cases hpc : pc = n
  · exact rturn_end l s o B G aw ah nw cw nt ct tk ad0 r pc b w0 w c a n k ga qa h hpc
  have hl : pc < c.length := by have := h.cd.1; have := h.pc1; omega
  have hi : c[pc]? = some c[pc] := List.getElem?_eq_getElem hl
  have hf := h.fit _ (List.mem_of_getElem? hi)
  generalize c[pc] = i at hi hf
  obtain ⟨kd, rg, ad, vl, fr, ol, ct0⟩ := i
  have hk : 1 ≤ kd ∧ kd ≤ 7 := by simp only [fitB, inB, Bool.and_eq_true, decide_eq_true_eq] at hf; omega
  have hrg : kd ≠ 2 → kd ≠ 4 → 0 ≤ rg ∧ rg < 4 := fun h2 h4 => by
    simp only [fitB, inB, Bool.and_eq_true, Bool.or_eq_true, decide_eq_true_eq, beq_iff_eq] at hf; omega
  have had : kd ≤ 3 → 0 ≤ ad ∧ ad < (nw : Int) := fun h3 => by
    simp only [fitB, inB, Bool.and_eq_true, Bool.or_eq_true, decide_eq_true_eq, beq_iff_eq] at hf; omega
  have hfr : kd = 2 → -1 ≤ fr ∧ fr < 4 := fun h3 => by simp [fitB, inB, h3] at hf; omega
  have hct : kd = 7 → 0 ≤ ct0 ∧ ct0 ≤ 10 := fun h3 => by simp [fitB, inB, h3] at hf; omega
  have hlw := h.D.len.1
  have hws : ∀ an : Nat, an < nw → s.ws[an]? = some (s.ws.getD an 0) := fun an ha => by
    rw [List.getD_eq_getElem?_getD, List.getElem?_eq_getElem (by omega)]; rfl
  by_cases k1 : kd = 1
  · subst k1
    obtain ⟨r1, r2⟩ := hrg (by decide) (by decide)
    obtain ⟨a1, a2⟩ := had (by decide)
    obtain ⟨rn, rfl⟩ := Int.eq_ofNat_of_zero_le r1
    obtain ⟨an, rfl⟩ := Int.eq_ofNat_of_zero_le a1
    exact rturn_1 l s o B G aw ah nw cw nt ct tk ad0 r pc b w0 w c a n k ga qa h vl fr ol ct0 rn an hi (by omega) (by omega) _ (hws an (by omega))
  by_cases k2 : kd = 2
  · subst k2
    obtain ⟨a1, a2⟩ := had (by decide)
    obtain ⟨f1, f2⟩ := hfr rfl
    obtain ⟨an, rfl⟩ := Int.eq_ofNat_of_zero_le a1
    by_cases hf1 : fr = -1
    · subst hf1
      by_cases ho : o = 1
      · exact rturn_2vw l s o B G aw ah nw cw nt ct tk ad0 r pc b w0 w c a n k ga qa h rg vl ol ct0 an hi (by omega) _ (hws an (by omega)) ho
      · exact rturn_2vb l s o B G aw ah nw cw nt ct tk ad0 r pc b w0 w c a n k ga qa h rg vl ol ct0 an hi (by omega) _ (hws an (by omega)) ho
    · obtain ⟨fn, rfl⟩ := Int.eq_ofNat_of_zero_le (show 0 ≤ fr by omega)
      by_cases ho : o = 1
      · exact rturn_2rw l s o B G aw ah nw cw nt ct tk ad0 r pc b w0 w c a n k ga qa h rg vl ol ct0 an fn hi (by omega) (by omega) _ (hws an (by omega)) ho
      · exact rturn_2rb l s o B G aw ah nw cw nt ct tk ad0 r pc b w0 w c a n k ga qa h rg vl ol ct0 an fn hi (by omega) (by omega) _ (hws an (by omega)) ho
  by_cases k3 : kd = 3
  · subst k3
    obtain ⟨r1, r2⟩ := hrg (by decide) (by decide)
    obtain ⟨a1, a2⟩ := had (by decide)
    obtain ⟨rn, rfl⟩ := Int.eq_ofNat_of_zero_le r1
    obtain ⟨an, rfl⟩ := Int.eq_ofNat_of_zero_le a1
    by_cases hb : 0 < b.length
    · exact rturn_3w l s o B G aw ah nw cw nt ct tk ad0 r pc b w0 w c a n k ga qa h vl fr ol ct0 rn an hi (by omega) (by omega) _ (hws an (by omega)) hb
    · by_cases he : s.ws.getD an 0 = ol
      · exact rturn_3y l s o B G aw ah nw cw nt ct tk ad0 r pc b w0 w c a n k ga qa h vl fr ol ct0 rn an hi (by omega) (by omega) _ (hws an (by omega)) hb he
      · exact rturn_3n l s o B G aw ah nw cw nt ct tk ad0 r pc b w0 w c a n k ga qa h vl fr ol ct0 rn an hi (by omega) (by omega) _ (hws an (by omega)) hb he
  by_cases k4 : kd = 4
  · subst k4
    by_cases hb : 0 < b.length
    · exact rturn_4n l s o B G aw ah nw cw nt ct tk ad0 r pc b w0 w c a n k ga qa h rg ad vl fr ol ct0 hi hb
    · exact rturn_4y l s o B G aw ah nw cw nt ct tk ad0 r pc b w0 w c a n k ga qa h rg ad vl fr ol ct0 hi hb
  obtain ⟨r1, r2⟩ := hrg (by omega) (by omega)
  obtain ⟨rn, rfl⟩ := Int.eq_ofNat_of_zero_le r1
  by_cases k5 : kd = 5
  · subst k5
    exact rturn_5 l s o B G aw ah nw cw nt ct tk ad0 r pc b w0 w c a n k ga qa h ad vl fr ol ct0 rn hi (by omega)
  by_cases k6 : kd = 6
  · subst k6
    exact rturn_6 l s o B G aw ah nw cw nt ct tk ad0 r pc b w0 w c a n k ga qa h ad vl fr ol ct0 rn hi (by omega)
  · obtain rfl : kd = 7 := by omega
    obtain ⟨c1, c2⟩ := hct rfl
    obtain ⟨cn, rfl⟩ := Int.eq_ofNat_of_zero_le c1
    by_cases he : r.get rn = vl
    · exact rturn_7y l s o B G aw ah nw cw nt ct tk ad0 r pc b w0 w c a n k ga qa h ad vl fr ol rn cn hi (by omega) (by omega) he
    · exact rturn_7n l s o B G aw ah nw cw nt ct tk ad0 r pc b w0 w c a n k ga qa h ad vl fr ol rn cn hi (by omega) (by omega) he
/-- A turn of the document is the pure one. -/
theorem rturn_any (l : Lt) (s : Sv) (o : Int) (B : Nat) (G : Gs) (aw ah : Option Addr) (nw cw nt ct : Nat) (tn : Tn) (w0 w : World) (hc : chkB l = true) (hW : Wg l o s) (ho : ordB o = true) (hD : Ds w B G s nw nt) (hw : nw = l.ws.length) (hT : ThAt w0 ah nt l.th) (hB0 : w0.heap.size ≤ B) (hBw : B ≤ w.heap.size) (hB : Below w0.heap.size w0 w) :
    Calls Tryd.prog 20 #[.agg #[.slice aw nw cw, .slice ah nt ct], .int .i64 o, .pointer (some ⟨G.p, 0, none⟩), tnV tn] w fun e w' => e = .returned (.bool (act l o s tn).isSome) ∧ Ds w' B G (trn l o s tn) nw nt ∧ Below B w w' := by
  obtain ⟨c1, c2, c3⟩ := chk_len hc
  have hl := hT.1
  have key : Calls Tryd.prog 20 #[.agg #[.slice aw nw cw, .slice ah nt ct], .int .i64 o, .pointer (some ⟨G.p, 0, none⟩), tnV tn] w fun e w' => RuP (act l o s tn) s tn.th.toNat e (fun s' => Ds w' B G s' nw nt ∧ Below B w w') := by
    by_cases hin : 0 ≤ tn.th ∧ tn.th < (nt : Int)
    · obtain ⟨th, ou, ad⟩ := tn
      dsimp only at hin ⊢
      obtain ⟨tk, rfl⟩ := Int.eq_ofNat_of_zero_le hin.1
      rw [Int.toNat_natCast]
      have htl : tk < l.th.length := by omega
      obtain ⟨cd, hcd⟩ : ∃ c, l.th[tk]? = some c := ⟨_, List.getElem?_eq_getElem htl⟩
      obtain ⟨hTp, hTb⟩ := hW.tp tk cd hcd
      have hV := Vw.of hW.sh htl
      cases ou with
      | true => exact rturn_out l s o B G aw ah nw cw nt ct tk ad _ _ _ w hD hBw hl (by omega) (by omega) (by omega) hV hTp.b1 (by rw [hw]; exact hTp.ba) hTp.sc ho
      | false =>
        obtain ⟨ga, qa, hga, hgl, hgc⟩ := hT.2.resolve_left (by intro e; rw [e] at htl; simp at htl)
        obtain ⟨a', n', k', hcell, hnk, hC⟩ := hgc tk cd hcd
        obtain ⟨hcl, hcf⟩ := c3 cd (List.mem_of_getElem? hcd)
        obtain ⟨pc, hpc⟩ := Int.eq_ofNat_of_zero_le hTp.p0
        have hx : act l o s ⟨(tk : Int), false, ad⟩ = ins o cd (vw s tk) := by
          unfold act; dsimp only; rw [if_pos (by omega)]; simp [List.getD_eq_getElem?_getD, hcd]
        rw [hx]
        have hV' := hV
        rw [hpc] at hV'
        have hn' := hC.1
        refine rturn_ins l s o B G aw ah nw cw nt ct tk ad _ pc _ w0 w cd a' n' k' ga qa ⟨hD, hBw, by omega, by omega, by omega, hV', hTp.b1, by rw [hw]; exact hTp.ba, hTp.sc, ho, hga, by omega, (hB.cell (p := ⟨ga, qa + tk, none⟩) hgl).trans hcell, hC.below hB, fun h0 g q e => ?_, by omega, by have := hTp.p1; omega, by rw [hw]; exact hcf⟩
        obtain ⟨g9, q9, e9, l9, -⟩ := hC.2.resolve_left h0
        rw [e9] at e; cases e; omega
    · exact rturn_no l s o B G aw ah nw cw nt ct tn w hD hBw hl hin
  refine key.mono ?_
  intro e w' D
  unfold trn
  rcases D with ⟨a1, a2, a3, a4⟩ | ⟨y, a1, a2, a3, a4⟩
  · rw [a1]; exact ⟨a2, a3, a4⟩
  · rw [a1]; exact ⟨a2, a3, a4⟩
end Go.Proofs.YtedcpglgfjelbaaDoor.Ts
/-
  TSO: the document's Begin.
-/
namespace Go.Proofs.YtedcpglgfjelbaaDoor.Ts
open Go.RowKit Mr
set_option linter.unusedVariables false
set_option linter.unusedSimpArgs false
set_option maxRecDepth 100000
/-- What Begin hands out. -/
structure Bg (w w' : World) (l : Lt) (nw nt g1 g2 g3 g4 c1 : Nat) : Prop where
  h1 : ∃ A : Array Value, w'.heap[g1]? = some (.cells A 3 (0, 0)) ∧ ∀ (j : Nat) (x : Int), l.ws[j]? = some x → A[j]? = some (.int .i64 x)
  h2 : w'.heap[g2]? = some (.cells (mkR nt) 67 (0, 0))
  h3 : w'.heap[g3]? = some (.cells (mkI nt) 3 (0, 0))
  h4 : w'.heap[g4]? = some (.cells (mkB nt) 68 (0, 0))
  le : w.heap.size ≤ g1 ∧ w.heap.size ≤ g2 ∧ w.heap.size ≤ g3 ∧ w.heap.size ≤ g4
  ne : g1 ≠ g2 ∧ g1 ≠ g3 ∧ g1 ≠ g4 ∧ g2 ≠ g3 ∧ g2 ≠ g4 ∧ g3 ≠ g4
  B : Below w.heap.size w w'
theorem dh {X : World} {k : Nat} {y : Option Obj} (h : X.heap[k]? = y) : X.drew.heap[k]? = y := h
set_option maxHeartbeats 16000000 in
theorem rBegin_any (l : Lt) (aw ah : Option Addr) (nw cw nt ct : Nat) (w : World) (hI : IsAt w aw nw l.ws) (h6 : nw ≤ 6) (h1 : 1 ≤ nw) (h4 : nt ≤ 4) : Calls Tryd.prog 15 #[.agg #[.slice aw nw cw, .slice ah nt ct]] w fun e w' => ∃ g1 g2 g3 g4 c1, e = .returned (.agg #[.slice (some ⟨g1, 0, none⟩) nw c1, .slice (some ⟨g2, 0, none⟩) nt nt, .slice (some ⟨g3, 0, none⟩) nt nt, .slice (some ⟨g4, 0, none⟩) nt nt]) ∧ Bg w w' l nw nt g1 g2 g3 g4 c1 := by
  have B0 : Below w.heap.size w ((w.alloc (.cells #[.slice aw nw cw, .slice ah nt ct] 25)).alloc (.cells #[.slice none 0 0, .slice none 0 0, .slice none 0 0, .slice none 0 0] 32)) := ((Below.refl _ _).alloc (Nat.le_refl _) _).alloc (by simp) _
  have b0 : ((w.alloc (.cells #[.slice aw nw cw, .slice ah nt ct] 25)).alloc (.cells #[.slice none 0 0, .slice none 0 0, .slice none 0 0, .slice none 0 0] 32)).heap[w.heap.size]? = some (.cells #[.slice aw nw cw, .slice ah nt ct] 25 (0, 0)) := (Lib.alloc_old _ _ _ (by simp)).trans (new_at _ _ _ rfl)
  have b1 : ((w.alloc (.cells #[.slice aw nw cw, .slice ah nt ct] 25)).alloc (.cells #[.slice none 0 0, .slice none 0 0, .slice none 0 0, .slice none 0 0] 32)).heap[w.heap.size + 1]? = some (.cells #[.slice none 0 0, .slice none 0 0, .slice none 0 0, .slice none 0 0] 32 (0, 0)) := new_at _ _ _ (by simp)
  have hI1 := hI.below B0
  have hl := hI.1
  have c0 := cell_blk b0 0
  have c1 := cell_blk b0 1
  have hmi := fun W => make_i W nt (by omega)
  have hmr := fun W => make_r W nt (by omega)
  have hmb := fun W => make_b W nt (by omega)
  obtain ⟨ii, hii, hi0, hi1, hi2⟩ := info_i
  obtain ⟨g, q, rfl, hg, hc⟩ := hI1.2.resolve_left (by intro e; rw [e] at hl; simp at hl; omega)
  have hap : Hid (∀ (W : World) (o : Oper) (a : Act) (K : Act → World → Prop) (Q : Exit → Act → World → Prop), True) := fun _ _ _ _ _ => trivial
  have hcc := Mr.hid hc
  have s1 : ((w.alloc (.cells #[.slice (some ⟨g, q, none⟩) nw cw, .slice ah nt ct] 25)).alloc (.cells #[.slice none 0 0, .slice none 0 0, .slice none 0 0, .slice none 0 0] 32)).heap.size = w.heap.size + 2 := by simp
  replace s1 := Mr.hid s1
  replace B0 := Mr.hid B0
  replace hl := Mr.hid hl
  have b1' := Mr.hid b1
  clear hI hI1 b0 hg hc b1 hap
  go_enter Tryd.func15, Tryd.ntmps15
  go_upto_region 3 with fail
  generalize ((w.alloc (.cells #[.slice (some ⟨g, q, none⟩) nw cw, .slice ah nt ct] 25)).alloc (.cells #[.slice none 0 0, .slice none 0 0, .slice none 0 0, .slice none 0 0] 32)) = w1 at *
  go_upto_region 4 with (at_builtin; refine wpList_append_has _ rfl _ _ 22 rfl (fun k => w1.heap.size ≤ k) 3 ii _ 1 8 Tryd.underlying22 hii hi0 hi1 hi2 rfl (.slice none 0 0) 0 [] rfl (Has.nil _ _ _ _) ⟨g, q, none⟩ nw cw (intsV l.ws) rfl (by simp [intsV]; have := hl.out; omega) (by
    intro j u hj
    rw [add1]
    simp only [intsV, List.getElem?_map] at hj
    cases hx : l.ws[j]? with
    | none => rw [hx] at hj; cases hj
    | some y => rw [hx] at hj; cases hj; exact hcc.out j y hx) (intsV_one _) (by omega) (by unfold maxLen; omega) (by omega) (Nat.le_refl _) ?_; intro g1 cap1 w2 hh2 hgr2 hgg2)
  have G1 : g1 = w1.heap.size := by rcases hgg2 with e | e; simp [Value.ownBlock] at e; exact e
  have B2 : Below w1.heap.size w1 w2 := (Below.refl _ _).grown hgr2 (Nat.le_refl _) (fun k e => by simp [Value.ownBlock] at e)
  have A1 : ∃ A : Array Value, w2.heap[g1]? = some (.cells A 3 (0, 0)) ∧ ∀ (j : Nat) (x : Int), l.ws[j]? = some x → A[j]? = some (.int .i64 x) := by
    rcases hh2.2 with ⟨e, _⟩ | ⟨g9, c9, cur, e, _, hg9, _, _, _, ht⟩
    · cases e
    · cases e
      refine ⟨cur, hg9, fun j x hx => ?_⟩
      have h9 : (cur.toList.take ((0 + nw) * 1))[j]? = some (.int .i64 x) := by rw [ht]; simp [intsV, hx]
      rw [List.getElem?_take] at h9
      split at h9
      · simpa using h9
      · cases h9
  have l1 : g1 < w2.heap.size := by obtain ⟨A, a, -⟩ := A1; exact (Array.getElem?_eq_some_iff.1 a).1
  have r1 := (B2.block _ (Array.getElem?_eq_some_iff.1 b1'.out).1).trans b1'.out
  have x0 := cell_blk r1 0
  have x1 := cell_blk r1 1
  have x2 := cell_blk r1 2
  have x3 := cell_blk r1 3
  have lr := (Array.getElem?_eq_some_iff.1 r1).1
  have fr : ∀ k, w2.frozen? ⟨w.heap.size + 1, k, none⟩ = false := fun k => by unfold World.frozen?; rw [r1]; rfl
  have s1' := s1.out
  have BW : Hid (Below w.heap.size w w2) := B0.out.trans (B2.mono B0.out.size)
  replace A1 := Mr.hid A1
  replace G1 := Mr.hid G1
  have lr1 : w.heap.size + 1 < w2.heap.size + 1 := by omega
  have lr2 : w.heap.size + 1 < w2.heap.size + 1 + 1 := by omega
  have nr0 : ¬ w.heap.size + 1 = w2.heap.size := by omega
  replace s1' := Mr.hid s1'
  try simp only [Nat.zero_add]
  clear hh2 hgr2 hgg2 B2 r1 c0 c1
  go_region_held3 (fun W => True) (trivial) (fail)
  all_goals
    go_wp2
    first
      | (refine bodyPost_ret (v := .agg #[.slice (some ⟨g1, 0, none⟩) nw cap1, .slice (some ⟨w2.heap.size, 0, none⟩) nt nt, .slice (some ⟨w2.heap.size + 1, 0, none⟩) nt nt, .slice (some ⟨w2.heap.size + 1 + 1, 0, none⟩) nt nt]) ?rr rfl ⟨g1, w2.heap.size, w2.heap.size + 1, w2.heap.size + 1 + 1, cap1, rfl, ?_⟩; case rr => (simp [results, Tryd.results15, go_sem, *]; done))
      | (refine bodyPost_ret (v := .agg #[.slice (some ⟨g1, 0, none⟩) nw cap1, .slice (some ⟨w2.heap.size, 0, none⟩) nt nt, .slice (some ⟨w2.heap.size + 1 + 1, 0, none⟩) nt nt, .slice (some ⟨w2.heap.size + 1, 0, none⟩) nt nt]) ?rr rfl ⟨g1, w2.heap.size, w2.heap.size + 1 + 1, w2.heap.size + 1, cap1, rfl, ?_⟩; case rr => (simp [results, Tryd.results15, go_sem, *]; done))
      | (refine bodyPost_ret (v := .agg #[.slice (some ⟨g1, 0, none⟩) nw cap1, .slice (some ⟨w2.heap.size + 1, 0, none⟩) nt nt, .slice (some ⟨w2.heap.size, 0, none⟩) nt nt, .slice (some ⟨w2.heap.size + 1 + 1, 0, none⟩) nt nt]) ?rr rfl ⟨g1, w2.heap.size + 1, w2.heap.size, w2.heap.size + 1 + 1, cap1, rfl, ?_⟩; case rr => (simp [results, Tryd.results15, go_sem, *]; done))
      | (refine bodyPost_ret (v := .agg #[.slice (some ⟨g1, 0, none⟩) nw cap1, .slice (some ⟨w2.heap.size + 1, 0, none⟩) nt nt, .slice (some ⟨w2.heap.size + 1 + 1, 0, none⟩) nt nt, .slice (some ⟨w2.heap.size, 0, none⟩) nt nt]) ?rr rfl ⟨g1, w2.heap.size + 1, w2.heap.size + 1 + 1, w2.heap.size, cap1, rfl, ?_⟩; case rr => (simp [results, Tryd.results15, go_sem, *]; done))
      | (refine bodyPost_ret (v := .agg #[.slice (some ⟨g1, 0, none⟩) nw cap1, .slice (some ⟨w2.heap.size + 1 + 1, 0, none⟩) nt nt, .slice (some ⟨w2.heap.size, 0, none⟩) nt nt, .slice (some ⟨w2.heap.size + 1, 0, none⟩) nt nt]) ?rr rfl ⟨g1, w2.heap.size + 1 + 1, w2.heap.size, w2.heap.size + 1, cap1, rfl, ?_⟩; case rr => (simp [results, Tryd.results15, go_sem, *]; done))
      | (refine bodyPost_ret (v := .agg #[.slice (some ⟨g1, 0, none⟩) nw cap1, .slice (some ⟨w2.heap.size + 1 + 1, 0, none⟩) nt nt, .slice (some ⟨w2.heap.size + 1, 0, none⟩) nt nt, .slice (some ⟨w2.heap.size, 0, none⟩) nt nt]) ?rr rfl ⟨g1, w2.heap.size + 1 + 1, w2.heap.size + 1, w2.heap.size, cap1, rfl, ?_⟩; case rr => (simp [results, Tryd.results15, go_sem, *]; done))
    have e1 := G1.out
    have e2 := s1'.out
    have e3 := l1
    refine ⟨?_, ?_, ?_, ?_, by omega, by omega, ?_⟩
    · obtain ⟨A, a, p⟩ := A1.out
      have hk : g1 ≠ w.heap.size + 1 := by omega
      refine ⟨A, dh ?_, p⟩
      exact (Lib.alloc_old _ _ _ (by simp; omega)).trans ((Lib.alloc_old _ _ _ (by simp; omega)).trans ((Lib.alloc_old _ _ _ (by simp; omega)).trans ((Below.heap_setCell _ _ _ _ hk).trans ((Below.heap_setCell _ _ _ _ hk).trans ((Below.heap_setCell _ _ _ _ hk).trans ((Below.heap_setCell _ _ _ _ hk).trans a))))))
    · refine dh ?_; first | exact new_at _ _ _ (by simp) | exact (Lib.alloc_old _ _ _ (by simp)).trans (new_at _ _ _ (by simp)) | exact (Lib.alloc_old _ _ _ (by simp; omega)).trans ((Lib.alloc_old _ _ _ (by simp)).trans (new_at _ _ _ (by simp)))
    · refine dh ?_; first | exact new_at _ _ _ (by simp) | exact (Lib.alloc_old _ _ _ (by simp)).trans (new_at _ _ _ (by simp)) | exact (Lib.alloc_old _ _ _ (by simp; omega)).trans ((Lib.alloc_old _ _ _ (by simp)).trans (new_at _ _ _ (by simp)))
    · refine dh ?_; first | exact new_at _ _ _ (by simp) | exact (Lib.alloc_old _ _ _ (by simp)).trans (new_at _ _ _ (by simp)) | exact (Lib.alloc_old _ _ _ (by simp; omega)).trans ((Lib.alloc_old _ _ _ (by simp)).trans (new_at _ _ _ (by simp)))
    · have hq : w.heap.size ≤ w.heap.size + 1 := by omega
      have hz := BW.out.size
      exact ((((((((BW.out.setCell (p := ⟨w.heap.size + 1, 0, none⟩) hq _).setCell (p := ⟨w.heap.size + 1, 1, none⟩) hq _).setCell (p := ⟨w.heap.size + 1, 2, none⟩) hq _).setCell (p := ⟨w.heap.size + 1, 3, none⟩) hq _).alloc (by simp; omega) _).alloc (by simp; omega) _).alloc (by simp; omega) _).drew)
end Go.Proofs.YtedcpglgfjelbaaDoor.Ts
