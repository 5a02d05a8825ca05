/-
  The document's After, Back, Writer by their contracts.
-/
import Derived.Test.YtilbkminekojcaaRefNew
import Derived.Test.YtilbkminekojcaaMemBack
import Derived.Test.YtilbkminekojcaaMemWriter
import Derived.BigQuiet
namespace Go.Proofs.Ytilbkminekojcaa.Me
open Go.RowKit Mr
set_option linter.unusedVariables false
set_option maxHeartbeats 2000000 in
set_option maxRecDepth 100000 in
theorem after_any {W : World} {S : Nat → Prop} {a : Option Addr} {n cap : Nat} {ws : List Int} {vq : Value} {lg : List Acc} (hs : Src W a n cap ws) (hq : Has W S 41 7 vq lg.length (lgc lg)) (hn : n ≤ 8192) (hlg : lg.length ≤ 5026338869641)
    (hok : ∀ j, j < lg.length → 0 ≤ (lg[j]?.getD noAcc).ad ∧ (lg[j]?.getD noAcc).ad < ws.length) :
    Calls Try.prog 49 #[.slice a n cap, vq] W fun e w' => ∃ v, e = .returned v ∧ Has w' (fun k => W.heap.size ≤ k) 31 1 v ws.length (wrd (lg.foldl putA ws)) ∧ Below W.heap.size W w' := by
  obtain ⟨i0, hi0, hz0, hz1, hz2⟩ := info_parts info_u64
  obtain ⟨aq, cq, rfl, _⟩ := hq.form
  have hwn := hs.1
  subst hwn
  have nx := hs.news
  replace nx := Mr.hid nx
  clear hs
  go_enter Try.func49, Try.ntmps49
  go_wp2_with (at_builtin; refine wpList_append_fresh _ rfl (.tmp 7) (.tmp 8) 22 rfl (fun k => W.heap.size ≤ k) 31 i0 (.int .u64 0) 1 8 Try.underlying22 hi0 hz0 hz1 hz2 rfl rfl a ws.length cap (wrd ws) rfl (by simp [wrd_length]) nx.out.1 (nx.out.2) (wrd_one ws) (by unfold maxLen; omega) (by omega) (Nat.le_refl _) ?_; intro v1 w1 hnow hg1 hat1; obtain ⟨anow, cnow, rfl, _⟩ := hnow.form; have hB4 : Below W.heap.size W w1 := ((Below.refl _ _).grown hg1 (Nat.le_refl _) (fun k hk => by cases hk)); clear hg1 hat1)
  go_loopg [6] lg.length (fun k s wy => ∃ i : Nat, s = .int .i64 (i : Int) ∧ i + k = lg.length ∧ Has wy (fun k => W.heap.size ≤ k) 31 1 (.slice anow ws.length cnow) ws.length (wrd ((lg.take i).foldl putA ws)) ∧ Below W.heap.size W wy)
  case atStart => exact ⟨0, rfl, by omega, hnow, hB4⟩
  case round =>
    obtain ⟨i, rfl, hi, hnow', B'⟩ := hrel
    clear hnow hB4 nx
    by_cases hlt : i < lg.length
    · obtain ⟨o1, o2⟩ := hok i hlt
      obtain ⟨gq, cq', hgq, _, hql, _⟩ := hq.there (by omega)
      cases hgq
      have cs : ∀ t u, t < 7 → (lg[i]?.getD noAcc).cells[t]? = some u → wr.cell? ⟨gq, i * 7 + t, none⟩ = some u := fun t u ht hu =>
        (B'.cell (p := ⟨gq, i * 7 + t, none⟩) hql).trans (hq.cells (g := gq) rfl _ _ ((lgc_get lg _ hlt t ht).trans hu))
      obtain ⟨g4, c4, hg4, hS4, hl4, _⟩ := hnow'.there (by omega)
      cases hg4
      have hsn : (lg.take (i + 1)).foldl putA ws = putA ((lg.take i).foldl putA ws) (lg[i]?.getD noAcc) := by
        rw [List.take_add_one, List.foldl_append]
        simp [hlt]
      have hwl : ((lg.take i).foldl putA ws).length = ws.length := foldl_putA_length _ _
      replace hsn := Mr.hid hsn
      generalize hcur : (lg.take i).foldl putA ws = cur at *
      generalize lg[i]?.getD noAcc = y at *
      obtain ⟨y0, y1, y2, y3, y4, y5, y6⟩ := y
      simp only at o1 o2
      obtain ⟨j, rfl⟩ : ∃ j : Nat, y3 = j := ⟨y3.toNat, by omega⟩
      have hjl : j < ws.length := by omega
      have d0 := cs 0 _ (by decide) rfl
      have d1 := cs 1 _ (by decide) rfl
      have d2 := cs 2 _ (by decide) rfl
      have d3 := cs 3 _ (by decide) rfl
      have d4 := cs 4 _ (by decide) rfl
      have d5 := cs 5 _ (by decide) rfl
      have d6 := cs 6 _ (by decide) rfl
      simp only [Nat.add_zero] at d0
      have hws := B'.size
      have e2 : decide (ws.length ≤ j) = false := by simp; omega
      have e1 : decide ((ws.length : Int) ≤ (j : Int)) = false := by simp; omega
      have e3 : decide ((j : Int) < 0) = false := by simp
      have hnd := fun p => hnow'.alloc p
      have cjd := fun p => (hnd p).cells (g := g4) rfl j _ (wrd_get cur j (by omega))
      have fjd := fun p => (hnd p).frozen (g := g4) rfl j
      have hne : g4 ≠ gq := by omega
      have d3a : ∀ p, (wr.alloc p).cell? ⟨gq, i * 7 + 3, none⟩ = some (.int .i64 (j : Int)) := fun p => by rw [World.cell?_alloc_past _ _ _ (by omega)]; exact d3
      have d5a : ∀ p, (wr.alloc p).cell? ⟨gq, i * 7 + 5, none⟩ = some (.int .u64 y5) := fun p => by rw [World.cell?_alloc_past _ _ _ (by omega)]; exact d5
      have V := rwrites_any y0 y1 y2 (j : Int) y4 y5 y6 wr
      clear cs hok hq o1 o2 hcur hwl
      replace hnow' := Mr.hid hnow'
      cases hw : wrt ⟨y0, y1, y2, (j : Int), y4, y5, y6⟩
      · rw [hw] at V
        have hp : putA cur ⟨y0, y1, y2, (j : Int), y4, y5, y6⟩ = cur := by simp [putA, hw]
        rw [hp] at hsn
        clear hp
        go_wp2_with (go_at_call 50; refine V.mono ?_; clear V; rintro e w6 ⟨rfl, rfl⟩)
        go_roundg (gk - 1)
        case measure => omega
        case rel => exact ⟨i + 1, by simp, by omega, by rw [hsn.out]; exact hnd _, B'.alloc hws _⟩
      · rw [hw] at V
        have hp : putA cur ⟨y0, y1, y2, (j : Int), y4, y5, y6⟩ = cur.set j y5 := by simp [putA, hw]
        rw [hp] at hsn
        clear hp
        go_wp2_with (go_at_call 50; refine V.mono ?_; clear V; rintro e w6 ⟨rfl, rfl⟩)
        go_region_held3 (fun w' => w'.cell? ⟨gq, i * 7 + 3, none⟩ = some (.int .i64 (j : Int)) ∧ w'.cell? ⟨gq, i * 7 + 5, none⟩ = some (.int .u64 y5)) (go_keep) (fail)
        all_goals go_wp2
        go_roundg (gk - 1)
        case measure => omega
        case rel =>
          refine ⟨i + 1, by simp, by omega, ?_, ((B'.setCell (p := ⟨g4, j, none⟩) hS4 _).alloc (by simp; omega) _).drew⟩
          rw [hsn.out, wrd_set]
          have hh := (has_store hnow'.out j (.int .u64 y5)).alloc (.cells #[.int .i64 y0, .int .i64 y1, .int .i64 y2, .int .i64 (j : Int), .int .u64 y4, .int .u64 y5, .int .u64 y6] 41)
          exact hh.kept (fun _ _ => rfl) (fun k hk => (hh.lt k hk).1)
    · obtain rfl : i = lg.length := by omega
      rw [List.take_length] at hnow'
      clear hq hok
      go_wp2
      go_ret
      exact ⟨_, rfl, hnow', B'⟩
section
variable {W : World} {S : Nat → Prop} {b : Nat} {vf vn vt : Value} {fs ws : List Int} {lg : List Acc} {mv : Int}
set_option maxRecDepth 100000 in
theorem rback_no (h : Rm W S b vf vn vt fs ws lg mv) (c : Int) (hc : c < 0 ∨ lg.length < c) :
    Calls Try.prog 41 #[.pointer (some ⟨b, 0, none⟩), .int .i64 c] W fun e w' => e = .returned (.int .i64 21) ∧ w' = W := by
  obtain ⟨a, cap, rfl, _⟩ := h.ht.form
  have c2 := h.c2
  generalize lg.length = n at *
  clear h
  by_cases hc0 : c < 0
  · have hd0 : decide (c < 0) = true := by simpa using hc0
    clear hc
    go_enter Try.func41, Try.ntmps41
    go_wp2
    go_ret
    exact ⟨rfl, rfl⟩
  · have hd : decide ((n : Int) < c) = true := by simp; omega
    have hd0 : decide (c < 0) = false := by simp; omega
    clear hc
    go_enter Try.func41, Try.ntmps41
    go_wp2
    go_ret
    exact ⟨rfl, rfl⟩
set_option maxRecDepth 100000 in
set_option maxHeartbeats 2000000 in
theorem rback_to (h : Rm W S b vf vn vt fs ws lg mv) (hok : ∀ a ∈ lg, 0 ≤ a.ad ∧ a.ad < fs.length) (hb : (lg.length + lg.length / 4 + 192) * 56 ≤ 281474976710656) (c : Nat) (hc : c ≤ lg.length) :
    Calls Try.prog 41 #[.pointer (some ⟨b, 0, none⟩), .int .i64 (c : Int)] W fun e w' => e = .returned (.int .i64 0) ∧
      (∃ vn' vt', Rm w' (fun k => S k ∨ W.heap.size ≤ k) b vf vn' vt' fs ((lg.take c).foldl putA fs) (lg.take c) mv) ∧ Fr W w' S := by
  obtain ⟨i0, hi0, hz0, hz1, hz2⟩ := info_parts info_acc
  have hsm : lg.length ≤ 5026338869641 := by omega
  have hlt := h.lt
  obtain ⟨a, cap, hv, hle⟩ := h.ht.form
  obtain ⟨af, cf, hvf, hsf⟩ := Src.of_has h.hf
  subst hv
  subst hvf
  have hsrc : (a = none → c = 0) ∧ ∀ ad, a = some ad → ∀ j u, (lgc (lg.take c))[j]? = some u → W.cell? (ad.add j) = some u := by
    rcases h.ht.2 with ⟨hv, h0⟩ | ⟨g, cap', cur, hv, _, _, _⟩
    · obtain ⟨rfl, h00, rfl⟩ : a = none ∧ lg.length = 0 ∧ cap = 0 := by simpa using hv
      exact ⟨fun _ => by omega, fun ad h => (by cases h)⟩
    · cases hv
      refine ⟨fun h => (by cases h), fun ad h' j u hu => ?_⟩
      cases h'
      have hadd : (⟨g, 0, none⟩ : Addr).add j = ⟨g, j, none⟩ := by unfold Addr.add; split <;> simp_all
      rw [hadd]
      refine h.ht.cells (g := g) rfl j u ?_
      have hpre : lgc lg = lgc (lg.take c) ++ lgc (lg.drop c) := by rw [lgc, lgc, lgc, ← List.flatMap_append, List.take_append_drop]
      rw [hpre]
      have hj : j < (lgc (lg.take c)).length := by
        rcases Nat.lt_or_ge j (lgc (lg.take c)).length with hj | hj
        · exact hj
        · rw [List.getElem?_eq_none hj] at hu; cases hu
      rw [List.getElem?_append_left hj]
      exact hu
  have htl : (lg.take c).length = c := by simp; omega
  have hone : ∀ u ∈ lgc (lg.take c), u.oneCell' = true := by
    intro u hu
    simp only [lgc, List.mem_flatMap] at hu
    obtain ⟨x, _, hx⟩ := hu
    simp only [Acc.cells, List.mem_cons, List.not_mem_nil, or_false] at hx
    rcases hx with rfl | rfl | rfl | rfl | rfl | rfl | rfl <;> rfl
  have c2 := h.c2
  have d1 : decide ((c : Int) < 0) = false := by simp
  have d2 : decide ((lg.length : Int) < (c : Int)) = false := by simp; omega
  have d3 : decide (lg.length < c) = false := by simp; omega
  have hcap : c ≤ cap := by omega
  have AF : ∀ (w' : World) (vq : Value), Below W.heap.size W w' → Has w' (fun k => W.heap.size ≤ k) 41 7 vq c (lgc (lg.take c)) → Calls Try.prog 49 #[.slice af fs.length cf, vq] (w'.setCell ⟨b, 2, none⟩ vq) fun e w'' => ∃ v, e = .returned v ∧ Has w'' (fun k => (w'.setCell ⟨b, 2, none⟩ vq).heap.size ≤ k) 31 1 v fs.length (wrd ((lg.take c).foldl putA fs)) ∧ Below (w'.setCell ⟨b, 2, none⟩ vq).heap.size (w'.setCell ⟨b, 2, none⟩ vq) w'' := fun w' vq hB hq => by
    have hq' : Has (w'.setCell ⟨b, 2, none⟩ vq) (fun k => W.heap.size ≤ k) 41 7 vq (lg.take c).length (lgc (lg.take c)) := by
      rw [htl]
      exact hq.setCell _ _ (fun e => by have := (hq.lt b e).1; omega)
    have hs2 : Has (w'.setCell ⟨b, 2, none⟩ vq) S 31 1 (.slice af fs.length cf) fs.length (wrd fs) := (h.hf.below hB).setCell _ _ h.bf
    obtain ⟨a2, c2, e2, hs3⟩ := Src.of_has hs2
    cases e2
    refine after_any hs3 hq' h.fle (by omega) (fun j hj => ?_)
    have hjl : j < lg.length := by omega
    have e : (lg.take c)[j]?.getD noAcc = lg[j] := by rw [List.getElem?_take_of_lt (by omega)]; simp [hjl]
    rw [e]
    exact hok _ (List.getElem_mem _)
  have fin : ∀ (w1 : World) (vq v : Value) (w2 : World), Below W.heap.size W w1 → Has w1 (fun k => W.heap.size ≤ k) 41 7 vq c (lgc (lg.take c)) → Has w2 (fun k => (w1.setCell ⟨b, 2, none⟩ vq).heap.size ≤ k) 31 1 v fs.length (wrd ((lg.take c).foldl putA fs)) → Below (w1.setCell ⟨b, 2, none⟩ vq).heap.size (w1.setCell ⟨b, 2, none⟩ vq) w2 →
      (∃ vn' vt', Rm (w2.setCell ⟨b, 1, none⟩ v) (fun k => S k ∨ W.heap.size ≤ k) b (.slice af fs.length cf) vn' vt' fs ((lg.take c).foldl putA fs) (lg.take c) mv) ∧ Fr W (w2.setCell ⟨b, 1, none⟩ v) S := fun w1 vq v w2 hB hq hv hB2 => by
    have hs1 := hB.size
    have e1 : (w1.setCell ⟨b, 2, none⟩ vq).heap.size = w1.heap.size := by simp
    rw [e1] at hv hB2
    have hs2 := hB2.size
    rw [e1] at hs2
    have kb1 : w1.heap[b]? = some (.cells #[.slice af fs.length cf, vn, .slice a lg.length cap, .int .i64 mv] 60 (0, 0)) := (hB.block b hlt).trans h.blk
    have kb2 : (w1.setCell ⟨b, 2, none⟩ vq).heap[b]? = some (.cells #[.slice af fs.length cf, vn, vq, .int .i64 mv] 60 (0, 0)) := by rw [setBlk kb1]; rfl
    have kb3 : w2.heap[b]? = some (.cells #[.slice af fs.length cf, vn, vq, .int .i64 mv] 60 (0, 0)) := (hB2.block b (by omega)).trans kb2
    have hqb : vq.ownBlock ≠ some b := fun e => by have := (hq.lt _ e).1; omega
    have hvb : v.ownBlock ≠ some b := fun e => by have := (hv.lt _ e).1; omega
    have hf2 : Has w2 S 31 1 (.slice af fs.length cf) fs.length (wrd fs) := ((h.hf.below hB).setCell ⟨b, 2, none⟩ vq h.bf).below (by rw [e1]; exact hB2)
    have hq2 : Has w2 (fun k => W.heap.size ≤ k) 41 7 vq c (lgc (lg.take c)) := (hq.setCell ⟨b, 2, none⟩ vq hqb).below (by rw [e1]; exact hB2)
    have hfl : ((lg.take c).foldl putA fs).length = fs.length := foldl_putA_length _ _
    refine ⟨⟨v, vq, ⟨by rw [setBlk kb3]; rfl, .inl h.inb, (hf2.setCell _ _ h.bf).mono (fun _ => .inl), ?_, ?_, ?_, ?_, h.fle⟩⟩, ?_⟩
    · rw [hfl]
      exact (hv.setCell _ _ hvb).mono (fun k hk => .inr (by omega))
    · rw [htl]
      exact (hq2.setCell _ _ hqb).mono (fun k hk => .inr hk)
    · intro k h1 h2
      have e1 := (h.hf.lt k h1).2
      have e2 := (hv.lt k h2).1
      omega
    · rw [hfl]; exact h.fle
    · exact ((((Fr.of_below hB).setCell ⟨b, 2, none⟩ vq (.inl h.inb)).trans (Fr.of_below (by rw [e1]; exact hB2))).setCell ⟨b, 1, none⟩ v (.inl h.inb))
  have kk : ∀ w1 : World, Below W.heap.size W w1 → w1.cell? ⟨b, 2, none⟩ = some (.slice a lg.length cap) ∧ w1.frozen? ⟨b, 2, none⟩ = false ∧ w1.cell? ⟨b, 0, none⟩ = some (.slice af fs.length cf) := fun w1 hB => by
    have := h.below hB
    exact ⟨this.c2, this.fz 2, this.c0⟩
  have kk2 : ∀ (w1 : World) (vq : Value) (w2 : World), Below W.heap.size W w1 → Below (w1.setCell ⟨b, 2, none⟩ vq).heap.size (w1.setCell ⟨b, 2, none⟩ vq) w2 → w2.cell? ⟨b, 1, none⟩ = some vn ∧ w2.frozen? ⟨b, 1, none⟩ = false := fun w1 vq w2 hB hB2 => by
    have kb1 : w1.heap[b]? = some (.cells #[.slice af fs.length cf, vn, .slice a lg.length cap, .int .i64 mv] 60 (0, 0)) := (hB.block b hlt).trans h.blk
    have kb2 : (w1.setCell ⟨b, 2, none⟩ vq).heap[b]? = some (.cells #[.slice af fs.length cf, vn, vq, .int .i64 mv] 60 (0, 0)) := by rw [setBlk kb1]; rfl
    have kb3 : w2.heap[b]? = some (.cells #[.slice af fs.length cf, vn, vq, .int .i64 mv] 60 (0, 0)) := (hB2.block b (Array.getElem?_eq_some_iff.1 kb2).1).trans kb2
    exact ⟨by simp [World.cell?, kb3], by simp [World.frozen?, kb3]⟩
  obtain ⟨an, cn, hvn, _⟩ := h.hn.form
  have hroom : (c + c / 4 + 192) * 56 ≤ 281474976710656 := room_mono hc hb (Nat.le_refl _)
  have hlgc : (lgc (lg.take c)).length = c * 7 := by rw [lgc_length, htl]
  replace hok := Mr.hid hok
  replace hb := Mr.hid hb
  replace hroom := Mr.hid hroom
  replace htl := Mr.hid htl
  replace hlgc := Mr.hid hlgc
  replace hone := Mr.hid hone
  replace hsrc := Mr.hid hsrc
  replace AF := Mr.hid AF
  replace fin := Mr.hid fin
  replace kk := Mr.hid kk
  replace kk2 := Mr.hid kk2
  replace hsf := Mr.hid hsf
  replace h := Mr.hid h
  have hcl : (c : Int) ≤ (lg.length : Int) := by omega
  have hcc : (c : Int) ≤ (cap : Int) := by omega
  generalize hll : lg.length = ll at *
  go_enter Try.func41, Try.ntmps41
  go_wp2_with (first
    | (at_builtin; (refine wpList_append_fresh _ rfl (.tmp 17) (.tmp 23) 35 rfl (fun k => W.heap.size ≤ k) 41 i0 _ 7 56 Try.underlying35 hi0 hz0 hz1 hz2 rfl rfl a c cap (lgc (lg.take c)) rfl hlgc.out hsrc.out.1 hsrc.out.2 hone.out (by unfold maxLen; omega) hroom.out (Nat.le_refl _) ?_; intro v1 w1 hq hg1 hat1; obtain ⟨a1, c1, rfl, _⟩ := hq.form; have hB : Below W.heap.size W w1 := ((Below.refl _ _).grown hg1 (Nat.le_refl _) (fun k hk => by cases hk)); clear hg1 hat1; obtain ⟨k1, k2, k3⟩ := kk.out w1 hB; have A1 := AF.out w1 _ hB hq; replace hq := Mr.hid hq))
    | (go_at_call 49; refine A1.mono ?_; clear A1; rintro e w2 ⟨v, rfl, hv2, hB2⟩; obtain ⟨a2, c2, rfl, _⟩ := hv2.form; obtain ⟨k4, k5⟩ := kk2.out w1 _ w2 hB hB2; replace hv2 := Mr.hid hv2; replace hB2 := Mr.hid hB2))
  go_ret
  obtain ⟨f1, f2⟩ := fin.out w1 _ _ w2 hB hq.out hv2.out hB2.out
  exact ⟨rfl, f1, f2⟩
set_option maxRecDepth 100000 in
theorem rwriter_no (h : Rm W S b vf vn vt fs ws lg mv) (ad : Int) (h0 : ad < 0 ∨ ws.length ≤ ad) :
    Calls Try.prog 42 #[.pointer (some ⟨b, 0, none⟩), .int .i64 ad] W fun e w' => e = .returned (.tuple #[.int .i64 0, .int .i64 0, .int .i64 20]) ∧ w' = W := by
  have C := there_no h ad h0
  clear h h0
  go_enter Try.func42, Try.ntmps42
  go_wp2_with (go_at_call 47; refine C.mono ?_; rintro e w' ⟨rfl, rfl⟩)
  go_ret3
  exact ⟨rfl, rfl⟩
set_option maxRecDepth 100000 in
set_option maxHeartbeats 2000000 in
theorem rwriter_any (h : Rm W S b vf vn vt fs ws lg mv) (hsm : lg.length ≤ 5026338869641) (ad : Nat) (hi : ad < ws.length) :
    Calls Try.prog 42 #[.pointer (some ⟨b, 0, none⟩), .int .i64 (ad : Int)] W fun e w' => e = .returned (.tuple #[.int .i64 (lastW ad (ent lg 0 lg.length)).1, .int .i64 (lastW ad (ent lg 0 lg.length)).2, .int .i64 0]) ∧ Below W.heap.size W w' := by
  have C := there_yes h ad (by omega) (by omega)
  have hlt := h.lt
  obtain ⟨a, cap, hv, hle⟩ := h.ht.form
  subst hv
  have hc2 : ∀ w', Below W.heap.size W w' → w'.cell? ⟨b, 2, none⟩ = some (.slice a lg.length cap) := fun w' hB => (h.below hB).c2
  have hq := h.ht
  replace h := Mr.hid h
  replace hi := Mr.hid hi
  go_enter Try.func42, Try.ntmps42
  go_wp2_with (go_at_call 47; refine C.mono ?_; clear C; rintro e w' ⟨rfl, hw⟩; obtain rfl := hw.symm)
  go_loopg [7, 8, 9] lg.length (fun k s7 s8 s9 wy => ∃ i : Nat, s9 = .int .i64 (i : Int) ∧ s7 = .int .i64 (lastW ad (ent lg 0 i)).1 ∧ s8 = .int .i64 (lastW ad (ent lg 0 i)).2 ∧ i + k = lg.length ∧ Below W.heap.size W wy)
  case atStart => exact ⟨0, rfl, rfl, rfl, by omega, Below.refl _ _⟩
  case round =>
    obtain ⟨i, rfl, rfl, rfl, hik, B'⟩ := hrel
    have c2 := hc2 wr B'
    by_cases hil : i < lg.length
    · obtain ⟨gq, cq', hgq, _, hql, hq1, hq2⟩ := hq.there (by omega)
      cases hgq
      unfold maxLen at hq2
      have cs : ∀ t u, t < 7 → (lg[i]?.getD noAcc).cells[t]? = some u → wr.cell? ⟨gq, i * 7 + t, none⟩ = some u := fun t u ht hu =>
        (B'.cell (p := ⟨gq, i * 7 + t, none⟩) hql).trans (hq.cells (g := gq) rfl _ _ ((lgc_get lg _ hil t ht).trans hu))
      have hls : lastW ad (ent lg 0 (i + 1)) = if ((lg[i]?.getD noAcc).ad == (ad : Int) && wrt (lg[i]?.getD noAcc)) = true then ((lg[i]?.getD noAcc).th, (i : Int)) else lastW ad (ent lg 0 i) := by
        rw [ent_succ, lastW_snoc]; simp
      generalize lg[i]?.getD noAcc = y at *
      obtain ⟨y0, y1, y2, y3, y4, y5, y6⟩ := y
      simp only at hls
      have d0 := cs 0 _ (by decide) rfl
      have d1 := cs 1 _ (by decide) rfl
      have d2 := cs 2 _ (by decide) rfl
      have d3 := cs 3 _ (by decide) rfl
      have d4 := cs 4 _ (by decide) rfl
      have d5 := cs 5 _ (by decide) rfl
      have d6 := cs 6 _ (by decide) rfl
      simp only [Nat.add_zero] at d0
      have hws := B'.size
      have hglt : gq < wr.heap.size := by omega
      have V := rwrites_any y0 y1 y2 y3 y4 y5 y6 wr
      have hblt : b < wr.heap.size := by omega
      have c2a : ∀ p, (wr.alloc p).cell? ⟨b, 2, none⟩ = some (.slice (some ⟨gq, 0, none⟩) lg.length cap) := fun p => by rw [World.cell?_alloc_past _ _ _ (by omega)]; exact c2
      have d1a : ∀ p, (wr.alloc p).cell? ⟨gq, i * 7 + 1, none⟩ = some (.int .i64 y1) := fun p => by rw [World.cell?_alloc_past _ _ _ (by omega)]; exact d1
      have hB1 : ∀ p, Below W.heap.size W (wr.alloc p) := fun p => B'.alloc hws p
      clear cs hq hc2
      generalize lastW ad (ent lg 0 i) = lw at *
      replace hB1 := Mr.hid hB1
      replace hsm' := Mr.hid hsm
      cases hw : wrt ⟨y0, y1, y2, y3, y4, y5, y6⟩ <;> cases he : (y3 == (ad : Int))
      all_goals rw [hw] at V
      all_goals simp only [hw, he, Bool.and_true, Bool.and_false, if_true, Bool.false_eq_true, if_false] at hls
      all_goals replace hls := Mr.hid hls
      all_goals go_wp2_with (go_at_call 50; refine V.mono ?_; clear V; rintro e w6 ⟨rfl, rfl⟩)
      all_goals go_roundg (gk - 1)
      case measure => omega
      case measure => omega
      case measure => omega
      case measure => omega
      all_goals exact ⟨i + 1, by simp, by rw [hls.out], by rw [hls.out], by omega, by first | exact B' | exact hB1.out _⟩
    · obtain rfl : i = lg.length := by omega
      clear hq
      go_wp2
      go_ret3
      exact ⟨rfl, B'⟩
end
end Go.Proofs.Ytilbkminekojcaa.Me
