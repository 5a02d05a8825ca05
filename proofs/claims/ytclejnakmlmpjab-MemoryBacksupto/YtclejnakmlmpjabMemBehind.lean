/-
  behind by its contract.
-/
import Derived.Test.YtclejnakmlmpjabMemPure
import Derived.Deep.RegionHeld3
namespace Go.Proofs.Ytclejnakmlmpjab.Me
open Go.RowKit Mr
set_option linter.unusedVariables false
theorem run_append_nils (w : World) : (Builtin.append_ #[22, 22] 22 #[.slice none 0 0, .slice none 0 0]).run Try.prog w = .ok (.slice none 0 0) w := by
  obtain ⟨i0, hi0, hz0, hz1, hz2⟩ := info_parts info_u64
  simp [Builtin.append_, run_underlying Try.underlying22, sizeOf, typeInfo, hi0, Builtin.lenOf, Builtin.firstCells]
theorem wpList_append_nils {w : World} {ops : Array Oper} {rest : List Oper} {o : Oper} {a : Act} {Q : Exit → Act → World → Prop} (hgd : o.guard = none) (s x : Operand)
    (ho : o.op = .call { callee := .builtin .append, args := #[s, x], argTypes := #[22, 22] }) (hty : o.type = 22) (hs : a.eval s = .slice none 0 0) (hx : a.eval x = .slice none 0 0)
    (h : wpList Try.prog ops Q rest (a.put o.dst (.slice none 0 0)) w) : wpList Try.prog ops Q (o :: rest) a w :=
  wpList_plain hgd fun _ hK => by
    have hr := run_append_nils w
    unfold Oper.wp execOp
    simp only [ho, hty, resolve, invoke, builtin, Sem.run_bind, Sem.run_pure, Result.andThen_ok, List.map_toArray, List.map_cons, List.map_nil, hs, hx, hr]
    exact hK _ _ h
set_option maxHeartbeats 2000000 in
set_option maxRecDepth 100000 in
theorem behind_any {W : World} {S : Nat → Prop} {a : Option Addr} {n cap : Nat} {ws : List Int} {vq : Value} {lg : List Acc} (hs : Src W a n cap ws) (hq : Has W S 71 7 vq lg.length (lgc lg)) (hn : n ≤ 8192) (hlg : lg.length ≤ 5026338869641)
    (hok : ∀ j, j < lg.length → 0 ≤ (lg[j]?.getD noAcc).ad ∧ (lg[j]?.getD noAcc).ad < ws.length) :
    Calls Try.prog 11 #[.slice a n cap, vq] W fun e w' => ∃ v, e = .returned (.tuple #[v, .bool true]) ∧ Has w' (fun k => W.heap.size ≤ k) 25 1 v ws.length (wrd (lg.foldl putA ws)) ∧ Below W.heap.size W w' := by
  obtain ⟨i0, hi0, hz0, hz1, hz2⟩ := info_parts info_u64
  obtain ⟨aq, cq, rfl, _⟩ := hq.form
  have hwn := hs.1
  go_enter Try.func11, Try.ntmps11
  go_upto_region 2 with fail
  go_cut [6] (fun s wx => Has wx (fun k => W.heap.size ≤ k) 25 1 s ws.length (wrd ws) ∧ Below W.heap.size W wx)
  case first =>
    rcases hs.2 with ⟨rfl, rfl, rfl⟩ | ⟨ad, rfl, hc3⟩
    · have hw0 : ws = [] := List.eq_nil_of_length_eq_zero hs.1.symm
      subst hw0
      clear hs hwn hok hq
      go_wp2_with (at_builtin; refine wpList_append_nils rfl (.tmp 8) (.tmp 9) rfl rfl rfl rfl ?_)
      go_meet
      case rel => exact ⟨Has.nil _ _ _ _, Below.refl _ _⟩
    · replace hc3 := Mr.hid hc3
      replace hwn := Mr.hid hwn
      go_wp2_with (at_builtin; refine wpList_append_own _ rfl (.tmp 8) (.tmp 9) 22 rfl W.heap.size 25 i0 (.int .u64 0) 1 8 Try.underlying22 hi0 hz0 hz1 hz2 rfl (by decide) (.slice none 0 0) 0 [] rfl (World.ownsRow_nil W _ _ _) ad n cap (wrd ws) rfl (by rw [wrd_length, hwn.out]; simp) (fun j u hu => hc3.out j u hu) (wrd_one ws) (by unfold maxLen; omega) (by omega) (Nat.le_refl _) ?_; intro v' w5 hown hgrow hnil)
      go_meet
      case rel =>
        rw [Nat.zero_add, List.nil_append, hwn.out] at hown
        exact ⟨Has.owns hown (fun _ h => h), (Below.refl _ _).grown hgrow (Nat.le_refl _) (fun k hk => by simp [Value.ownBlock] at hk)⟩
  case rest =>
    obtain ⟨hnow, hB4⟩ := hcut
    obtain ⟨anow, cnow, rfl, _⟩ := hnow.form
    clear hs
    replace hwn := Mr.hid hwn
    go_wp2
    go_loopg [7] lg.length (fun k s wy => ∃ i : Nat, s = .int .i64 (i : Int) ∧ i + k = lg.length ∧ Has wy (fun k => W.heap.size ≤ k) 25 1 (.slice anow ws.length cnow) ws.length (wrd ((lg.take i).foldl putA ws)) ∧ Below W.heap.size W wy)
    case atStart => exact ⟨0, rfl, by omega, hnow, hB4⟩
    case round =>
      obtain ⟨i, rfl, hi, hnow', B'⟩ := hrel
      clear hnow hB4
      by_cases hlt : i < lg.length
      · obtain ⟨o1, o2⟩ := hok i hlt
        obtain ⟨gq, cq', hgq, _, hql, _⟩ := hq.there (by omega)
        cases hgq
        have cs : ∀ t u, t < 7 → (lg[i]?.getD noAcc).cells[t]? = some u → wr.cell? ⟨gq, i * 7 + t, none⟩ = some u := fun t u ht hu =>
          (B'.cell (p := ⟨gq, i * 7 + t, none⟩) hql).trans (hq.cells (g := gq) rfl _ _ ((lgc_get lg _ hlt t ht).trans hu))
        obtain ⟨g4, c4, hg4, hS4, hl4, _⟩ := hnow'.there (by omega)
        cases hg4
        have hsn : (lg.take (i + 1)).foldl putA ws = putA ((lg.take i).foldl putA ws) (lg[i]?.getD noAcc) := by
          rw [List.take_add_one, List.foldl_append]
          simp [hlt]
        have hwl : ((lg.take i).foldl putA ws).length = ws.length := foldl_putA_length _ _
        replace hsn := Mr.hid hsn
        generalize hcur : (lg.take i).foldl putA ws = cur at *
        generalize lg[i]?.getD noAcc = y at *
        obtain ⟨y0, y1, y2, y3, y4, y5, y6⟩ := y
        simp only at o1 o2
        obtain ⟨j, rfl⟩ : ∃ j : Nat, y3 = j := ⟨y3.toNat, by omega⟩
        have hjl : j < ws.length := by omega
        have d0 := cs 0 _ (by decide) rfl
        have d1 := cs 1 _ (by decide) rfl
        have d2 := cs 2 _ (by decide) rfl
        have d3 := cs 3 _ (by decide) rfl
        have d4 := cs 4 _ (by decide) rfl
        have d5 := cs 5 _ (by decide) rfl
        have d6 := cs 6 _ (by decide) rfl
        simp only [Nat.add_zero] at d0
        have hws := B'.size
        have e2 : decide (ws.length ≤ j) = false := by simp; omega
        have e1 : decide ((ws.length : Int) ≤ (j : Int)) = false := by simp; omega
        have e3 : decide ((j : Int) < 0) = false := by simp
        have hnd := fun p => hnow'.alloc p
        have cjd := fun p => (hnd p).cells (g := g4) rfl j _ (wrd_get cur j (by omega))
        have fjd := fun p => (hnd p).frozen (g := g4) rfl j
        have hne : g4 ≠ gq := by omega
        have d3a : ∀ p, (wr.alloc p).cell? ⟨gq, i * 7 + 3, none⟩ = some (.int .i64 (j : Int)) := fun p => by rw [World.cell?_alloc_past _ _ _ (by omega)]; exact d3
        have d5a : ∀ p, (wr.alloc p).cell? ⟨gq, i * 7 + 5, none⟩ = some (.int .u64 y5) := fun p => by rw [World.cell?_alloc_past _ _ _ (by omega)]; exact d5
        have V := writes_any y0 y1 y2 (j : Int) y4 y5 y6 wr
        clear cs hok hq o1 o2 hcur hwl
        replace hnow' := Mr.hid hnow'
        cases hw : wrt ⟨y0, y1, y2, (j : Int), y4, y5, y6⟩
        · rw [hw] at V
          have hp : putA cur ⟨y0, y1, y2, (j : Int), y4, y5, y6⟩ = cur := by simp [putA, hw]
          rw [hp] at hsn
          clear hp
          go_wp2_with (go_at_call 29; refine V.mono ?_; clear V; rintro e w6 ⟨rfl, rfl⟩)
          go_roundg (gk - 1)
          case measure => omega
          case rel => exact ⟨i + 1, by simp, by omega, by rw [hsn.out]; exact hnd _, B'.alloc hws _⟩
        · rw [hw] at V
          have hp : putA cur ⟨y0, y1, y2, (j : Int), y4, y5, y6⟩ = cur.set j y5 := by simp [putA, hw]
          rw [hp] at hsn
          clear hp
          go_wp2_with (go_at_call 29; refine V.mono ?_; clear V; rintro e w6 ⟨rfl, rfl⟩)
          go_region_held3 (fun w' => w'.cell? ⟨gq, i * 7 + 3, none⟩ = some (.int .i64 (j : Int)) ∧ w'.cell? ⟨gq, i * 7 + 5, none⟩ = some (.int .u64 y5)) (go_keep) (fail)
          all_goals go_wp2
          go_roundg (gk - 1)
          case measure => omega
          case rel =>
            refine ⟨i + 1, by simp, by omega, ?_, ((B'.setCell (p := ⟨g4, j, none⟩) hS4 _).alloc (by simp; omega) _).drew⟩
            rw [hsn.out, wrd_set]
            have hh := (has_store hnow'.out j (.int .u64 y5)).alloc (.cells #[.int .i64 y0, .int .i64 y1, .int .i64 y2, .int .i64 (j : Int), .int .u64 y4, .int .u64 y5, .int .u64 y6] 71)
            exact hh.kept (fun _ _ => rfl) (fun k hk => (hh.lt k hk).1)
      · obtain rfl : i = lg.length := by omega
        rw [List.take_length] at hnow'
        clear hq hok
        go_wp2
        go_ret2
        exact ⟨_, rfl, hnow', B'⟩
end Go.Proofs.Ytclejnakmlmpjab.Me
