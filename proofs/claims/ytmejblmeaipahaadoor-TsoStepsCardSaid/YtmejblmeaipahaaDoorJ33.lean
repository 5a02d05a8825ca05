import Derived.Test.YtmejblmeaipahaaDoorJ25
import Derived.Test.YtmejblmeaipahaaDoorJ26
import Derived.Test.YtmejblmeaipahaaDoorJ27
import Derived.Test.YtmejblmeaipahaaDoorJ28
import Derived.Test.YtmejblmeaipahaaDoorJ29
import Derived.Test.YtmejblmeaipahaaDoorJ30
import Derived.Test.YtmejblmeaipahaaDoorJ31
import Derived.Test.YtmejblmeaipahaaDoorJ32
import Derived.Test.YtmejblmeaipahaaDoorJ24
/-
  TSO: a turn of the document is the pure one.
-/
namespace Go.Proofs.YtmejblmeaipahaaDoor.Ts
open Go.RowKit Mr
set_option linter.unusedVariables false
set_option linter.unusedSimpArgs false
set_option maxRecDepth 100000
theorem rturn_ins (l : Lt) (s : Sv) (o : Int) (B : Nat) (G : Gs) (aw ah : Option Addr) (nw cw nt ct tk : Nat) (ad0 : Int) (r : Rg) (pc : Nat) (b : List Pd) (w0 w : World) (c : List In) (a : Option Addr) (n k ga qa : Nat) (h : Dp l s o B G ah nw nt tk r pc b w0 w c a n k ga qa) :
    Calls Tryd.prog 20 #[.agg #[.slice aw nw cw, .slice ah nt ct], .int .i64 o, .pointer (some ⟨G.p, 0, none⟩), .agg #[.int .i64 (tk : Int), .bool false, .int .i64 ad0]] w fun e w' => RuP (ins o c (vw s tk)) s tk e (fun s' => Ds w' B G s' nw nt ∧ Below B w w') := by
  by_cases hpc : pc = n
  · exact rturn_end l s o B G aw ah nw cw nt ct tk ad0 r pc b w0 w c a n k ga qa h hpc
  have hl : pc < c.length := by have := h.cd.1; have := h.pc1; omega
  have hi : c[pc]? = some c[pc] := List.getElem?_eq_getElem hl
  have hf := h.fit _ (List.mem_of_getElem? hi)
  generalize c[pc] = i at hi hf
  obtain ⟨kd, rg, ad, vl, fr, ol, ct0⟩ := i
  have hk : 1 ≤ kd ∧ kd ≤ 7 := by simp only [fitB, inB, Bool.and_eq_true, decide_eq_true_eq] at hf; omega
  have hrg : kd ≠ 2 → kd ≠ 4 → 0 ≤ rg ∧ rg < 4 := fun h2 h4 => by
    simp only [fitB, inB, Bool.and_eq_true, Bool.or_eq_true, decide_eq_true_eq, beq_iff_eq] at hf; omega
  have had : kd ≤ 3 → 0 ≤ ad ∧ ad < (nw : Int) := fun h3 => by
    simp only [fitB, inB, Bool.and_eq_true, Bool.or_eq_true, decide_eq_true_eq, beq_iff_eq] at hf; omega
  have hfr : kd = 2 → -1 ≤ fr ∧ fr < 4 := fun h3 => by simp [fitB, inB, h3] at hf; omega
  have hct : kd = 7 → 0 ≤ ct0 ∧ ct0 ≤ 10 := fun h3 => by simp [fitB, inB, h3] at hf; omega
  have hlw := h.D.len.1
  have hws : ∀ an : Nat, an < nw → s.ws[an]? = some (s.ws.getD an 0) := fun an ha => by
    rw [List.getD_eq_getElem?_getD, List.getElem?_eq_getElem (by omega)]; rfl
  by_cases k1 : kd = 1
  · subst k1
    obtain ⟨r1, r2⟩ := hrg (by decide) (by decide)
    obtain ⟨a1, a2⟩ := had (by decide)
    obtain ⟨rn, rfl⟩ := Int.eq_ofNat_of_zero_le r1
    obtain ⟨an, rfl⟩ := Int.eq_ofNat_of_zero_le a1
    exact rturn_1 l s o B G aw ah nw cw nt ct tk ad0 r pc b w0 w c a n k ga qa h vl fr ol ct0 rn an hi (by omega) (by omega) _ (hws an (by omega))
  by_cases k2 : kd = 2
  · subst k2
    obtain ⟨a1, a2⟩ := had (by decide)
    obtain ⟨f1, f2⟩ := hfr rfl
    obtain ⟨an, rfl⟩ := Int.eq_ofNat_of_zero_le a1
    by_cases hf1 : fr = -1
    · subst hf1
      by_cases ho : o = 1
      · exact rturn_2vw l s o B G aw ah nw cw nt ct tk ad0 r pc b w0 w c a n k ga qa h rg vl ol ct0 an hi (by omega) _ (hws an (by omega)) ho
      · exact rturn_2vb l s o B G aw ah nw cw nt ct tk ad0 r pc b w0 w c a n k ga qa h rg vl ol ct0 an hi (by omega) _ (hws an (by omega)) ho
    · obtain ⟨fn, rfl⟩ := Int.eq_ofNat_of_zero_le (show 0 ≤ fr by omega)
      by_cases ho : o = 1
      · exact rturn_2rw l s o B G aw ah nw cw nt ct tk ad0 r pc b w0 w c a n k ga qa h rg vl ol ct0 an fn hi (by omega) (by omega) _ (hws an (by omega)) ho
      · exact rturn_2rb l s o B G aw ah nw cw nt ct tk ad0 r pc b w0 w c a n k ga qa h rg vl ol ct0 an fn hi (by omega) (by omega) _ (hws an (by omega)) ho
  by_cases k3 : kd = 3
  · subst k3
    obtain ⟨r1, r2⟩ := hrg (by decide) (by decide)
    obtain ⟨a1, a2⟩ := had (by decide)
    obtain ⟨rn, rfl⟩ := Int.eq_ofNat_of_zero_le r1
    obtain ⟨an, rfl⟩ := Int.eq_ofNat_of_zero_le a1
    by_cases hb : 0 < b.length
    · exact rturn_3w l s o B G aw ah nw cw nt ct tk ad0 r pc b w0 w c a n k ga qa h vl fr ol ct0 rn an hi (by omega) (by omega) _ (hws an (by omega)) hb
    · by_cases he : s.ws.getD an 0 = ol
      · exact rturn_3y l s o B G aw ah nw cw nt ct tk ad0 r pc b w0 w c a n k ga qa h vl fr ol ct0 rn an hi (by omega) (by omega) _ (hws an (by omega)) hb he
      · exact rturn_3n l s o B G aw ah nw cw nt ct tk ad0 r pc b w0 w c a n k ga qa h vl fr ol ct0 rn an hi (by omega) (by omega) _ (hws an (by omega)) hb he
  by_cases k4 : kd = 4
  · subst k4
    by_cases hb : 0 < b.length
    · exact rturn_4n l s o B G aw ah nw cw nt ct tk ad0 r pc b w0 w c a n k ga qa h rg ad vl fr ol ct0 hi hb
    · exact rturn_4y l s o B G aw ah nw cw nt ct tk ad0 r pc b w0 w c a n k ga qa h rg ad vl fr ol ct0 hi hb
  obtain ⟨r1, r2⟩ := hrg (by omega) (by omega)
  obtain ⟨rn, rfl⟩ := Int.eq_ofNat_of_zero_le r1
  by_cases k5 : kd = 5
  · subst k5
    exact rturn_5 l s o B G aw ah nw cw nt ct tk ad0 r pc b w0 w c a n k ga qa h ad vl fr ol ct0 rn hi (by omega)
  by_cases k6 : kd = 6
  · subst k6
    exact rturn_6 l s o B G aw ah nw cw nt ct tk ad0 r pc b w0 w c a n k ga qa h ad vl fr ol ct0 rn hi (by omega)
  · obtain rfl : kd = 7 := by omega
    obtain ⟨c1, c2⟩ := hct rfl
    obtain ⟨cn, rfl⟩ := Int.eq_ofNat_of_zero_le c1
    by_cases he : r.get rn = vl
    · exact rturn_7y l s o B G aw ah nw cw nt ct tk ad0 r pc b w0 w c a n k ga qa h ad vl fr ol rn cn hi (by omega) (by omega) he
    · exact rturn_7n l s o B G aw ah nw cw nt ct tk ad0 r pc b w0 w c a n k ga qa h ad vl fr ol rn cn hi (by omega) (by omega) he
/-- A turn of the document is the pure one. -/
theorem rturn_any (l : Lt) (s : Sv) (o : Int) (B : Nat) (G : Gs) (aw ah : Option Addr) (nw cw nt ct : Nat) (tn : Tn) (w0 w : World) (hc : chkB l = true) (hW : Wg l o s) (ho : ordB o = true) (hD : Ds w B G s nw nt) (hw : nw = l.ws.length) (hT : ThAt w0 ah nt l.th) (hB0 : w0.heap.size ≤ B) (hBw : B ≤ w.heap.size) (hB : Below w0.heap.size w0 w) :
    Calls Tryd.prog 20 #[.agg #[.slice aw nw cw, .slice ah nt ct], .int .i64 o, .pointer (some ⟨G.p, 0, none⟩), tnV tn] w fun e w' => e = .returned (.bool (act l o s tn).isSome) ∧ Ds w' B G (trn l o s tn) nw nt ∧ Below B w w' := by
  obtain ⟨c1, c2, c3⟩ := chk_len hc
  have hl := hT.1
  have key : Calls Tryd.prog 20 #[.agg #[.slice aw nw cw, .slice ah nt ct], .int .i64 o, .pointer (some ⟨G.p, 0, none⟩), tnV tn] w fun e w' => RuP (act l o s tn) s tn.th.toNat e (fun s' => Ds w' B G s' nw nt ∧ Below B w w') := by
    by_cases hin : 0 ≤ tn.th ∧ tn.th < (nt : Int)
    · obtain ⟨th, ou, ad⟩ := tn
      dsimp only at hin ⊢
      obtain ⟨tk, rfl⟩ := Int.eq_ofNat_of_zero_le hin.1
      rw [Int.toNat_natCast]
      have htl : tk < l.th.length := by omega
      obtain ⟨cd, hcd⟩ : ∃ c, l.th[tk]? = some c := ⟨_, List.getElem?_eq_getElem htl⟩
      obtain ⟨hTp, hTb⟩ := hW.tp tk cd hcd
      have hV := Vw.of hW.sh htl
      cases ou with
      | true => exact rturn_out l s o B G aw ah nw cw nt ct tk ad _ _ _ w hD hBw hl (by omega) (by omega) (by omega) hV hTp.b1 (by rw [hw]; exact hTp.ba) hTp.sc ho
      | false =>
        obtain ⟨ga, qa, hga, hgl, hgc⟩ := hT.2.resolve_left (by intro e; rw [e] at htl; simp at htl)
        obtain ⟨a', n', k', hcell, hnk, hC⟩ := hgc tk cd hcd
        obtain ⟨hcl, hcf⟩ := c3 cd (List.mem_of_getElem? hcd)
        obtain ⟨pc, hpc⟩ := Int.eq_ofNat_of_zero_le hTp.p0
        have hx : act l o s ⟨(tk : Int), false, ad⟩ = ins o cd (vw s tk) := by
          unfold act; dsimp only; rw [if_pos (by omega)]; simp [List.getD_eq_getElem?_getD, hcd]
        rw [hx]
        have hV' := hV
        rw [hpc] at hV'
        have hn' := hC.1
        refine rturn_ins l s o B G aw ah nw cw nt ct tk ad _ pc _ w0 w cd a' n' k' ga qa ⟨hD, hBw, by omega, by omega, by omega, hV', hTp.b1, by rw [hw]; exact hTp.ba, hTp.sc, ho, hga, by omega, (hB.cell (p := ⟨ga, qa + tk, none⟩) hgl).trans hcell, hC.below hB, fun h0 g q e => ?_, by omega, by have := hTp.p1; omega, by rw [hw]; exact hcf⟩
        obtain ⟨g9, q9, e9, l9, -⟩ := hC.2.resolve_left h0
        rw [e9] at e; cases e; omega
    · exact rturn_no l s o B G aw ah nw cw nt ct tn w hD hBw hl hin
  refine key.mono ?_
  intro e w' D
  unfold trn
  rcases D with ⟨a1, a2, a3, a4⟩ | ⟨y, a1, a2, a3, a4⟩
  · rw [a1]; exact ⟨a2, a3, a4⟩
  · rw [a1]; exact ⟨a2, a3, a4⟩
end Go.Proofs.YtmejblmeaipahaaDoor.Ts
/-
  TSO: what the document's Copy comes to.
-/
namespace Go.Proofs.YtmejblmeaipahaaDoor.Ts
open Go.RowKit Mr
set_option linter.unusedVariables false
set_option linter.unusedSimpArgs false
set_option maxRecDepth 100000
def rgV (r : List Rg) : List Value := r.flatMap fun x => [.int .i64 x.r0, .int .i64 x.r1, .int .i64 x.r2, .int .i64 x.r3]
theorem rgV_len (b : List Rg) : (rgV b).length = b.length * 4 := by
  induction b with
  | nil => rfl
  | cons p b ih => simp only [rgV, List.flatMap_cons, List.length_append, List.length_cons, List.length_nil] at ih ⊢; omega
theorem rgV_one (b : List Rg) : ∀ u ∈ rgV b, u.oneCell' = true := by
  intro u hu
  simp only [rgV, List.mem_flatMap, List.mem_cons, List.not_mem_nil, or_false] at hu
  obtain ⟨p, -, rfl | rfl | rfl | rfl⟩ := hu <;> rfl
theorem rgV_get : ∀ (b : List Rg) (j : Nat) (p : Rg), b[j]? = some p → ∀ k, k < 4 → (rgV b)[j * 4 + k]? = some (.int .i64 (p.get k))
  | [], j, p, h => by simp at h
  | x :: b, 0, p, h => by
    simp at h; subst h
    intro k hk
    match k, hk with
    | 0, _ => rfl
    | 1, _ => rfl
    | 2, _ => rfl
    | 3, _ => rfl
  | x :: b, j + 1, p, h => by
    have ih := rgV_get b j p (by simpa using h)
    intro k hk
    rw [show (j + 1) * 4 + k = j * 4 + k + 1 + 1 + 1 + 1 by omega]
    exact ih k hk
theorem rgV_at (b : List Rg) (q : Nat) (u : Value) (h : (rgV b)[q]? = some u) : ∃ j p k, b[j]? = some p ∧ k < 4 ∧ q = j * 4 + k ∧ u = .int .i64 (p.get k) := by
  have hq : q < b.length * 4 := by rw [← rgV_len]; exact (List.getElem?_eq_some_iff.1 h).1
  have hj : q / 4 < b.length := by omega
  have hp : b[q / 4]? = some b[q / 4] := List.getElem?_eq_getElem hj
  have h0 := rgV_get b (q / 4) _ hp (q % 4) (by omega)
  rw [show q / 4 * 4 + q % 4 = q by omega, h] at h0
  cases h0
  exact ⟨q / 4, _, q % 4, hp, by omega, by omega, rfl⟩
theorem fzC {W : World} {g j : Nat} {cs : Array Value} {T : TypeId} (h : W.heap[g]? = some (.cells cs T (0, 0))) : W.frozen? ⟨g, j, none⟩ = false := by unfold World.frozen?; rw [h]; rfl
/-- append of a row, some or none, onto nil: memory of its own. -/
theorem wp_app_nil {w : World} {o : Oper} {a : Act} {K : Act → World → Prop} {Q : Exit → Act → World → Prop} (s x : Operand) (t : TypeId)
    (ho : o.op = .call { callee := .builtin .append, args := #[s, x], argTypes := #[t, t] }) (e : TypeId) (i : TypeInfo) (z : Value) (size bytes : Nat) (ht : Tryd.prog.underlying t = some (.slice e)) (hi : Tryd.prog.info? e = some i) (hz : i.zero = some z) (hsize : i.size = size) (hby : i.bytes = bytes) (hzs : z.cells.size = size) (hb56 : bytes ≤ 56)
    (hs : a.eval s = .slice none 0 0) (a1 : Option Addr) (n1 k1 : Nat) (news : List Value) (hx : a.eval x = .slice a1 n1 k1) (hl : news.length = n1 * size) (hsz : 0 < size)
    (hnews : n1 ≠ 0 → ∃ ad, a1 = some ad ∧ ∀ j u, news[j]? = some u → w.cell? (ad.add j) = some u) (h1 : ∀ u ∈ news, u.oneCell' = true) (hzz : n1 * bytes ≤ 140737488351232) (hm : n1 ≤ 140737488351232)
    (h : ∀ a2 c2 w', n1 ≤ c2 → Has w' (fun k => w.heap.size ≤ k ∧ k < w'.heap.size) e size (.slice a2 n1 c2) n1 news → Below w.heap.size w w' → K (a.put o.dst (.slice a2 n1 c2)) w') : o.wp Tryd.prog a w K Q := by
  by_cases h0 : n1 = 0
  · subst h0
    have hc : news = [] := List.eq_nil_of_length_eq_zero (by omega)
    subst hc
    refine wp_append_zero s x t ho e i ht hi none 0 0 (Nat.le_refl _) hs _ _ hx ?_
    exact h none 0 w (Nat.le_refl _) (Has.nil _ _ _ _) (Below.refl _ _)
  · obtain ⟨ad, rfl, hc⟩ := hnews h0
    refine wp_append_has _ s x t ho (fun k => w.heap.size ≤ k) e i z size bytes ht hi hz hsize hby hzs (.slice none 0 0) 0 [] hs (Has.nil _ _ _ _) ad n1 k1 news hx hl hc h1 (by omega) (by unfold maxLen; omega) ?_ (Nat.le_refl _) ?_
    · rw [Nat.zero_add]
      have e1 : n1 / 4 * bytes ≤ n1 * bytes / 4 := by
        rw [Nat.le_div_iff_mul_le (by decide)]
        have := Nat.div_mul_le_self n1 4
        calc n1 / 4 * bytes * 4 = n1 / 4 * 4 * bytes := by rw [Nat.mul_right_comm]
          _ ≤ n1 * bytes := Nat.mul_le_mul_right _ this
      rw [Nat.add_mul, Nat.add_mul]
      omega
    · intro g cap w' hh hgr hgg
      simp only [Nat.zero_add, List.nil_append] at hh ⊢
      obtain ⟨g9, cp9, hv9, -, hg9, hc9, -⟩ := hh.there (by omega)
      cases hv9
      refine h _ _ w' hc9 (hh.kept (fun _ _ => rfl) (fun k hk => hh.lt k hk)) ((Below.refl _ _).grown hgr (Nat.le_refl _) (fun k e => by simp [Value.ownBlock] at e))
/-- What Copy has come to. -/
structure Cq (w wr : World) (s : Sv) (vs : Array Value) (n0 n1 n2 : Nat) (a0 : Option Addr) (c0 : Nat) (a1 : Option Addr) (c1 : Nat) (a2 : Option Addr) (c2 : Nat) (m0 m1 m2 i : Nat) (v : Value) : Prop where
  lbx : wr.heap[w.heap.size]? = some (.cells vs 32 (0, 0))
  rbx : wr.heap[w.heap.size + 1]? = some (.cells #[.slice none 0 0, .slice none 0 0, .slice none 0 0, .slice none 0 0] 32 (0, 0))
  xbx : wr.heap[w.heap.size + 2]? = some (.cells #[.slice a0 n0 c0, .slice a1 n1 c1, .slice a2 n2 c2, v] 32 (0, 0))
  r0 : Has wr (fun k => w.heap.size + 3 ≤ k ∧ k < m0) 3 1 (.slice a0 n0 c0) n0 (intsV s.ws)
  r1 : Has wr (fun k => m0 ≤ k ∧ k < m1) 67 4 (.slice a1 n1 c1) n1 (rgV s.rg)
  r2 : Has wr (fun k => m1 ≤ k ∧ k < m2) 3 1 (.slice a2 n2 c2) n2 (intsV s.pl)
  ord : w.heap.size + 3 ≤ m0 ∧ m0 ≤ m1 ∧ m1 ≤ m2 ∧ m2 ≤ wr.heap.size
  row : ∃ rv, Has wr (fun k => m2 ≤ k) 68 1 v i rv ∧ (∀ j b, j < i → s.bf[j]? = some b → ∃ a' c', rv[j]? = some (.slice a' b.length c') ∧ Has wr (fun k => m2 ≤ k ∧ v.ownBlock ≠ some k) 70 2 (.slice a' b.length c') b.length (pdV b)) ∧ ∀ j j' u u' k, j < i → j' < i → j ≠ j' → rv[j]? = some u → rv[j']? = some u' → u.ownBlock = some k → u'.ownBlock ≠ some k
  bel : Below w.heap.size w wr
theorem add1c (b o j : Nat) : (⟨b, o, none⟩ : Addr).add j = ⟨b, o + j, none⟩ := add1 b o j
theorem IsAt.news {W : World} {a : Option Addr} {n : Nat} {xs : List Int} (h : IsAt W a n xs) : n ≠ 0 → ∃ ad, a = some ad ∧ ∀ j u, (intsV xs)[j]? = some u → W.cell? (ad.add j) = some u := fun h0 => by
  obtain ⟨g, q, rfl, hg, hc⟩ := h.2.resolve_left (fun e => h0 (by rw [h.1, e]; rfl))
  refine ⟨_, rfl, fun j u hu => ?_⟩
  rw [add1]
  simp only [intsV, List.getElem?_map] at hu
  cases hx : xs[j]? with
  | none => rw [hx] at hu; cases hu
  | some y => rw [hx] at hu; cases hu; exact hc j y hx
theorem RgAt.news {W : World} {a : Option Addr} {n : Nat} {xs : List Rg} (h : RgAt W a n xs) : n ≠ 0 → ∃ ad, a = some ad ∧ ∀ j u, (rgV xs)[j]? = some u → W.cell? (ad.add j) = some u := fun h0 => by
  obtain ⟨g, q, rfl, hg, hc⟩ := h.2.resolve_left (fun e => h0 (by rw [h.1, e]; rfl))
  refine ⟨_, rfl, fun j u hu => ?_⟩
  rw [add1]
  obtain ⟨j', p, k, hp, hk, rfl, rfl⟩ := rgV_at xs j u hu
  obtain ⟨e0, e1, e2, e3⟩ := hc j' p hp
  rw [show q + (j' * 4 + k) = q + j' * 4 + k by omega]
  match k, hk with
  | 0, _ => exact e0
  | 1, _ => exact e1
  | 2, _ => exact e2
  | 3, _ => exact e3
theorem PdAt.news {W : World} {a : Option Addr} {n : Nat} {xs : List Pd} (h : PdAt W a n xs) : n ≠ 0 → ∃ ad, a = some ad ∧ ∀ j u, (pdV xs)[j]? = some u → W.cell? (ad.add j) = some u := fun h0 => by
  obtain ⟨g, q, rfl, hg, hc⟩ := h.2.resolve_left (fun e => h0 (by rw [h.1, e]; rfl))
  refine ⟨_, rfl, fun j u hu => ?_⟩
  rw [add1]
  obtain ⟨j', p, hp, ⟨rfl, rfl⟩ | ⟨rfl, rfl⟩⟩ := pdV_at xs j u hu
  · exact (hc j' p hp).1
  · rw [show q + (j' * 2 + 1) = q + j' * 2 + 1 by omega]; exact (hc j' p hp).2
theorem Cq.next {w wr wb w4 : World} {s : Sv} {vs : Array Value} {n0 n1 n2 : Nat} {a0 : Option Addr} {c0 : Nat} {a1 : Option Addr} {c1 : Nat} {a2 : Option Addr} {c2 m0 m1 m2 i : Nat} {av : Option Addr} {cv : Nat} {b : List Pd} {ab : Option Addr} {cb g4 cap4 : Nat} {rv : List Value} (h : Cq w wr s vs n0 n1 n2 a0 c0 a1 c1 a2 c2 m0 m1 m2 i (.slice av i cv)) (hb : s.bf[i]? = some b) (hB : Below wr.heap.size wr wb) (hH : Has wb (fun k => wr.heap.size ≤ k ∧ k < wb.heap.size) 70 2 (.slice ab b.length cb) b.length (pdV b))
    (hrow : Has wr (fun k => m2 ≤ k) 68 1 (.slice av i cv) i rv) (hrv : (∀ j b, j < i → s.bf[j]? = some b → ∃ a' c', rv[j]? = some (.slice a' b.length c') ∧ Has wr (fun k => m2 ≤ k ∧ (Value.slice av i cv).ownBlock ≠ some k) 70 2 (.slice a' b.length c') b.length (pdV b)) ∧ ∀ j j' u u' k, j < i → j' < i → j ≠ j' → rv[j]? = some u → rv[j']? = some u' → u.ownBlock = some k → u'.ownBlock ≠ some k)
    (h4 : Has w4 (fun k => m2 ≤ k) 68 1 (.slice (some ⟨g4, 0, none⟩) (i + 1) cap4) (i + 1) (rv ++ [.slice ab b.length cb])) (hgr : (wb.alloc (.cells #[.slice ab b.length cb] 68)).grownBy w4 (Value.slice av i cv).ownBlock) (hgg : (Value.slice av i cv).ownBlock = some g4 ∨ g4 = (wb.alloc (.cells #[.slice ab b.length cb] 68)).heap.size) :
    Cq w (w4.setCell ⟨w.heap.size + 2, 3, none⟩ (.slice (some ⟨g4, 0, none⟩) (i + 1) cap4)) s vs n0 n1 n2 a0 c0 a1 c1 a2 c2 m0 m1 m2 (i + 1) (.slice (some ⟨g4, 0, none⟩) (i + 1) cap4) := by
  obtain ⟨o1, o2, o3, o4⟩ := h.ord
  have own : ∀ k, (Value.slice av i cv).ownBlock = some k → m2 ≤ k ∧ k < wr.heap.size := fun k e => hrow.lt k e
  have sC : (wb.alloc (.cells #[.slice ab b.length cb] 68)).heap.size = wb.heap.size + 1 := by simp
  have hrl : rv.length = i := by have := hrow.1; omega
  have hn : ∀ k, k < wr.heap.size → (Value.slice av i cv).ownBlock ≠ some k → k ≠ w.heap.size + 2 → (w4.setCell ⟨w.heap.size + 2, 3, none⟩ (.slice (some ⟨g4, 0, none⟩) (i + 1) cap4)).heap[k]? = wr.heap[k]? := fun k hk hne hnb =>
    (Below.heap_setCell _ _ _ _ hnb).trans ((hgr.block k (by rw [sC]; have := hB.size; omega) (fun e => hne e.symm)).trans ((Below.heap_alloc _ _ _ (Nat.lt_of_lt_of_le hk hB.size)).trans (hB.block k hk)))
  have hnb : ∀ k, wr.heap.size ≤ k → k < wb.heap.size → (w4.setCell ⟨w.heap.size + 2, 3, none⟩ (.slice (some ⟨g4, 0, none⟩) (i + 1) cap4)).heap[k]? = wb.heap[k]? := fun k hk hk2 =>
    (Below.heap_setCell _ _ _ _ (by show k ≠ w.heap.size + 2; omega)).trans ((hgr.block k (by rw [sC]; omega) (fun e => by have := own k e.symm; omega)).trans (Below.heap_alloc _ _ _ hk2))
  have no : ∀ k, k < m2 → (Value.slice av i cv).ownBlock ≠ some k := fun k hk e => by have := own k e; omega
  have g4k : ∀ k, k < wr.heap.size → (Value.slice av i cv).ownBlock ≠ some k → g4 ≠ k := fun k hk hne e => by
    rcases hgg with e' | e'
    · rw [e'] at hne; exact hne (by rw [e])
    · rw [sC] at e'; have := hB.size; omega
  have l0 := (Array.getElem?_eq_some_iff.1 h.lbx).1
  have l1 := (Array.getElem?_eq_some_iff.1 h.rbx).1
  have l2 := (Array.getElem?_eq_some_iff.1 h.xbx).1
  have x4 : w4.heap[w.heap.size + 2]? = some (.cells #[.slice a0 n0 c0, .slice a1 n1 c1, .slice a2 n2 c2, .slice av i cv] 32 (0, 0)) :=
    (hgr.block _ (by rw [sC]; have := hB.size; omega) (fun e => no (w.heap.size + 2) (by omega) e.symm)).trans ((Below.heap_alloc _ _ _ (Nat.lt_of_lt_of_le l2 hB.size)).trans ((hB.block _ l2).trans h.xbx))
  refine ⟨(hn _ l0 (no _ (by omega)) (by omega)).trans h.lbx, (hn _ l1 (no _ (by omega)) (by omega)).trans h.rbx, md_heap x4, ?_, ?_, ?_, ?_, ?_, ?_⟩
  · exact h.r0.kept (fun k hk => hn k (h.r0.lt k hk).2 (no k (by have := (h.r0.lt k hk).1; omega)) (by have := (h.r0.lt k hk).1; omega)) (fun k hk => (h.r0.lt k hk).1)
  · exact h.r1.kept (fun k hk => hn k (h.r1.lt k hk).2 (no k (by have := (h.r1.lt k hk).1; omega)) (by have := (h.r1.lt k hk).1; omega)) (fun k hk => (h.r1.lt k hk).1)
  · exact h.r2.kept (fun k hk => hn k (h.r2.lt k hk).2 (no k (by have := (h.r2.lt k hk).1; omega)) (by have := (h.r2.lt k hk).1; omega)) (fun k hk => (h.r2.lt k hk).1)
  · refine ⟨o1, o2, o3, ?_⟩
    have e1 : (w4.setCell ⟨w.heap.size + 2, 3, none⟩ (.slice (some ⟨g4, 0, none⟩) (i + 1) cap4)).heap.size = w4.heap.size := by simp
    have := hgr.size
    have := hB.size
    rw [sC] at *
    omega
  · refine ⟨rv ++ [.slice ab b.length cb], h4.setCell _ _ (fun e => ?_), fun j c hj hc => ?_, fun j j' u u' k hj hj' hne hu hu' hk => ?_⟩
    · have := (h4.lt _ e).1; show False; have e2 : m2 ≤ w.heap.size + 2 := this; omega
    · by_cases hji : j < i
      · obtain ⟨a', c', q1, q2⟩ := hrv.1 j c hji hc
        refine ⟨a', c', by rw [List.getElem?_append_left (by omega)]; exact q1, q2.kept (fun k hk => ?_) (fun k hk => ?_)⟩
        · obtain ⟨⟨p1, p2⟩, p3⟩ := q2.lt k hk
          exact hn k p3 p2 (by omega)
        · obtain ⟨⟨p1, p2⟩, p3⟩ := q2.lt k hk
          refine ⟨p1, fun e => ?_⟩
          have e' : g4 = k := by simpa [Value.ownBlock] using e
          exact g4k k p3 p2 e'
      · obtain rfl : j = i := by omega
        rw [hb] at hc; cases hc
        refine ⟨ab, cb, by rw [List.getElem?_append_right (by omega), hrl]; simp, hH.kept (fun k hk => ?_) (fun k hk => ?_)⟩
        · obtain ⟨⟨p1, p2⟩, p3⟩ := hH.lt k hk
          exact hnb k p1 p2
        · obtain ⟨⟨p1, p2⟩, p3⟩ := hH.lt k hk
          refine ⟨by omega, fun e => ?_⟩
          have e' : g4 = k := by simpa [Value.ownBlock] using e
          rcases hgg with e2 | e2
          · have := own g4 e2; omega
          · rw [sC] at e2; omega
    · have get : ∀ {j : Nat} {u : Value} {k : Nat}, j < i → (rv ++ [Value.slice ab b.length cb])[j]? = some u → rv[j]? = some u := fun hj hu => by rw [List.getElem?_append_left (by omega)] at hu; exact hu
      have lst : ∀ {u : Value}, (rv ++ [Value.slice ab b.length cb])[i]? = some u → u = .slice ab b.length cb := fun hu => by
        rw [List.getElem?_append_right (by omega), hrl] at hu; simpa using hu.symm
      have oldlt : ∀ {j : Nat} {u : Value} {k : Nat}, j < i → rv[j]? = some u → u.ownBlock = some k → k < wr.heap.size := fun {j u k} hj hu hk => by
        obtain ⟨c, hc⟩ : ∃ c, s.bf[j]? = some c := ⟨_, List.getElem?_eq_getElem (by have := (List.getElem?_eq_some_iff.1 hb).1; omega)⟩
        obtain ⟨a', c', q1, q2⟩ := hrv.1 j c hj hc
        rw [hu] at q1; cases q1
        exact (q2.lt k hk).2
      by_cases hji : j < i
      · have hu1 := get (k := 0) hji hu
        by_cases hji' : j' < i
        · exact hrv.2 j j' u u' k hji hji' hne hu1 (get (k := 0) hji' hu') hk
        · obtain rfl : j' = i := by omega
          rw [lst hu']
          intro e
          have := (hH.lt k e).1.1
          have := oldlt hji hu1 hk
          omega
      · obtain rfl : j = i := by omega
        rw [lst hu] at hk
        have hu1 := get (k := 0) (show j' < j by omega) hu'
        intro e
        have := (hH.lt k hk).1.1
        have := oldlt (show j' < j by omega) hu1 e
        omega
  · have e1 : Below w.heap.size w wb := h.bel.trans (hB.mono h.bel.size)
    exact ((e1.alloc e1.size _).grown hgr (by rw [sC]; have := e1.size; omega) (fun k hk => by have := own k hk; have := h.bel.size; omega)).setCell (p := ⟨w.heap.size + 2, 3, none⟩) (by show w.heap.size ≤ w.heap.size + 2; omega) _
end Go.Proofs.YtmejblmeaipahaaDoor.Ts
