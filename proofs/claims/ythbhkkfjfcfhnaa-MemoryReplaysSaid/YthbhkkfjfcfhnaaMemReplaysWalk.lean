/-
  THE LAW MemoryReplays.
-/
import Derived.Test.YthbhkkfjfcfhnaaMemPure
import Derived.BigQuiet
namespace Go.Proofs.Ythbhkkfjfcfhnaa.Me
open Go.RowKit Mr
set_option linter.unusedVariables false
theorem b0le {w0 : World} {b : Nat} {S : Nat → Prop} {s : St} {mv : Int} (h : MemS w0 S b s mv) : b < w0.heap.size := by obtain ⟨_, _, _, h⟩ := h; exact h.lt
/-- One access more of a script, the memory all beyond w's blocks. -/
theorem access_run {w wr : World} {b : Nat} {ws : List Int} {os : List O} {i : Nat} (hi : i < os.length) (hb : Hid ((os.length + os.length / 4 + 192) * 56 ≤ 281474976710656)) (hM : MemS wr (fun k => w.heap.size ≤ k) b (runs ws (os.take i)) 0) (B : Below w.heap.size w wr) :
    Calls Try.prog 23 #[.pointer (some ⟨b, 0, none⟩), .agg #[.int .i64 (os[i]?.getD noO).k, .int .i64 (os[i]?.getD noO).th, .int .i64 (os[i]?.getD noO).ad, .int .i64 (os[i]?.getD noO).n, .int .u64 (os[i]?.getD noO).old, .int .u64 (os[i]?.getD noO).w]] wr fun e w' =>
      e = .returned (.tuple #[]) ∧ MemS w' (fun k => w.heap.size ≤ k) b (runs ws (os.take (i + 1))) 0 ∧ Below w.heap.size w w' := by
  have hs := B.size
  refine (access_any hM (runs_roomy ws os i hi hb.out) (os[i]?.getD noO)).mono ?_
  rintro e w' ⟨rfl, h1, h2⟩
  rw [runs_snoc ws os i hi]
  exact ⟨rfl, h1.mono (fun k hk => by rcases hk with hk | hk <;> omega), B.trans (h2.below (fun k hk => hk) hs)⟩
set_option maxHeartbeats 4000000 in
set_option maxRecDepth 100000 in
theorem law_replays (a : Option Addr) (n cap : Nat) (ws : List Int) (ao : Option Addr) (no co : Nat) (os : List O) (w : World) (hs : Src w a n cap ws) (ho : OpsAt w ao no os) (hr : (os.length + os.length / 4 + 192) * 56 ≤ 281474976710656) :
    Calls Try.prog 5 #[.slice a n cap, .slice ao no co] w fun e w' => e = .returned (.bool true) ∧ Below w.heap.size w w' := by
  have hno : os.length ≤ 5026338869641 := by omega
  replace hr := Mr.hid hr
  by_cases hbig : 8192 < n
  · have hd : decide (8192 < (n : Int)) = true := by simp; omega
    go_enter Try.func5, Try.ntmps5
    go_wp2_with (go_at_call 21; refine (awake_any _).mono ?_; rintro e w1 ⟨rfl, hB1⟩)
    go_ret
    exact ⟨rfl, hB1⟩
  have hd : decide (8192 < (n : Int)) = false := by simp; omega
  have C := made_any _ _ _ _ _ hs (by omega)
  obtain ⟨hnl, ho'⟩ := id ho
  subst hnl
  go_enter Try.func5, Try.ntmps5
  go_wp2_with (go_at_call 22; refine C.mono ?_; clear C; rintro e w1 ⟨b, rfl, hM, hB1⟩)
  go_loopg [6] os.length (fun k s wr => ∃ i : Nat, s = .int .i64 (i : Int) ∧ i + k = os.length ∧ MemS wr (fun k => w.heap.size ≤ k) b (runs ws (os.take i)) 0 ∧ Below w.heap.size w wr)
  case atStart => exact ⟨0, rfl, by omega, hM, hB1⟩
  case round =>
    obtain ⟨i, rfl, hi, hMi, B⟩ := hrel
    by_cases hlt : i < os.length
    · have D := access_run hlt hr hMi B
      rcases (ho.below B).2 with h0 | ⟨bo, oo, rfl, hbo, hc⟩
      · rw [h0] at hlt; simp at hlt
      obtain ⟨c0, c1, c2, c3, c4, c5⟩ := hc i hlt
      clear hc ho'
      generalize os[i]?.getD noO = o at *
      replace hMi := Mr.hid hMi
      go_wp2_with (go_at_call 23; refine D.mono ?_; clear D; rintro e w2 ⟨rfl, hM2, hB2⟩)
      go_roundg (gk - 1)
      case measure => omega
      case rel => exact ⟨i + 1, by simp, by omega, hM2, hB2⟩
    · obtain rfl : i = os.length := by omega
      rw [List.take_length] at hMi
      have hrep := runs_rep ws os
      have hlgle := runs_lg_le ws os
      generalize runs ws os = s at *
      obtain ⟨sw, lg, ah⟩ := s
      obtain ⟨vw, vl, va, hm⟩ := hMi
      simp only at hm hlgle
      have hlen : sw.length = ws.length := hrep.len
      have hroom : (lg.length + lg.length / 4 + 192) * 56 ≤ 281474976710656 := room_mono hlgle hr.out (Nat.le_refl _)
      have L := logged_any hm hroom 0 ((os.length : Int) + 1)
      have hmin : min (lg.length - (0 : Int).toNat) ((os.length : Int) + 1).toNat = lg.length := by simp; omega
      simp only [hmin] at L
      replace hroom := Mr.hid hroom
      have N := count_any hm
      replace hm := Mr.hid hm
      have hle8 : (ws.length : Int) ≤ 8192 := by have := hs.1; omega
      obtain ⟨i0, hi0, hz0, hz1, hz2⟩ := info_parts info_u64
      have hsB := fun (W' : World) (hW : Below w.heap.size w W') => (hs.below hW)
      clear ho ho' hM hB1 hi hlt
      go_upto_region 13 with (first | (go_at_call 18; refine L.mono ?_; clear L; rintro e w3 ⟨vn, vq, k, rfl, rfl, hvn, hvq, hB3⟩; have N3 := count_any (hm.out.below hB3); clear N; obtain ⟨an, cn, rfl, _⟩ := hvn.form; obtain ⟨aq, cq, rfl, _⟩ := hvq.form; have hS3 := hsB w3 (B.trans (hB3.mono B.size)); clear hsB) | (go_at_call 13; refine N3.mono ?_; clear N3; rintro e w4 ⟨rfl, hw4⟩; obtain rfl := hw4.symm))
      go_cut [10] (fun s wx => Has wx (fun k => w3.heap.size ≤ k) 23 1 s ws.length (wrd ws) ∧ Below w3.heap.size w3 wx)
      case first =>
        rcases hS3.2 with ⟨rfl, rfl, rfl⟩ | ⟨ad, rfl, hc3⟩
        · have hw0 : ws = [] := List.eq_nil_of_length_eq_zero hS3.1.symm
          subst hw0
          go_wp2
          go_meet
          case rel => exact ⟨Has.owns (World.ownsRow_made w3 #[] 0 (Nat.le_refl _) (by decide) (by simp)) (fun _ h => h), (Below.refl _ _).alloc (Nat.le_refl _) _⟩
        · replace hc3 := Mr.hid hc3
          go_wp2_with (at_builtin; refine wpList_append_own _ rfl (.tmp 51) (.tmp 52) 22 rfl w3.heap.size 23 i0 (.int .u64 0) 1 8 Try.underlying22 hi0 hz0 hz1 hz2 rfl (by decide) (.slice (some ⟨w3.heap.size, 0, none⟩) 0 0) 0 [] rfl (World.ownsRow_made w3 #[] 0 (Nat.le_refl _) (by decide) (by simp)) ad n cap (wrd ws) rfl (by rw [wrd_length, ← hS3.1]; simp) (fun j u hu => (((Below.refl w3.heap.size w3).alloc (Nat.le_refl _) _).cell (p := ad.add j) (World.block_lt_of_cell? w3 _ (hc3.out j u hu))).trans (hc3.out j u hu)) (wrd_one ws) (by unfold maxLen; omega) (by omega) (by simp) ?_; intro v' w5 hown hgrow hnil)
          go_meet
          case rel =>
            rw [Nat.zero_add, List.nil_append, hS3.1] at hown
            exact ⟨Has.owns hown (fun _ h => h), ((Below.refl _ _).alloc (Nat.le_refl _) _).grown hgrow (by simp) (fun k hk => by simp [Value.ownBlock] at hk; omega)⟩
      case rest =>
        obtain ⟨hnow, hB4⟩ := hcut
        have hvq' : Has w3 (fun k => wr.heap.size ≤ k) 57 7 (.slice aq lg.length cq) lg.length (lgc lg) := by
          have := hvq
          simp only [Int.toNat_zero, ent_all] at this
          exact this
        have hvn' : Has w3 (fun k => wr.heap.size ≤ k) 3 1 (.slice an lg.length cn) lg.length (nmc (ent lg 0 lg.length)) := hvn
        clear hvq hvn hS3
        have hok := hrep.ok
        have hfin : sw = lg.foldl putA ws := hrep.now
        simp only at hok
        replace hrep := Mr.hid hrep
        replace hfin := Mr.hid hfin
        obtain ⟨anow, cnow, rfl, _⟩ := hnow.form
        go_wp2
        go_loopg [11] lg.length (fun k s wy => ∃ i : Nat, s = .int .i64 (i : Int) ∧ i + k = lg.length ∧ Has wy (fun k => w3.heap.size ≤ k) 23 1 (.slice anow ws.length cnow) ws.length (wrd ((lg.take i).foldl putA ws)) ∧ Below w3.heap.size w3 wy)
        case atStart => exact ⟨0, rfl, by omega, hnow, hB4⟩
        case round =>
          obtain ⟨i, rfl, hi, hnow', B'⟩ := hrel
          clear hnow hB4
          by_cases hlt : i < lg.length
          · obtain ⟨o1, o2, o3⟩ := hok i hlt
            obtain ⟨gq, cq', hgq, _, hql, _⟩ := hvq'.there (by omega)
            obtain ⟨gn, cn', hgn, _, hnl, _⟩ := hvn'.there (by omega)
            cases hgq
            cases hgn
            have cs : ∀ t u, t < 7 → (lg[i]?.getD noAcc).cells[t]? = some u → wr.cell? ⟨gq, i * 7 + t, none⟩ = some u := fun t u ht hu =>
              (B'.cell (p := ⟨gq, i * 7 + t, none⟩) hql).trans (hvq'.cells (g := gq) rfl _ _ ((lgc_get lg _ hlt t ht).trans hu))
            have cn0 := (B'.cell (p := ⟨gn, i, none⟩) hnl).trans (hvn'.cells (g := gn) rfl i _ (nmc_get lg lg.length i hlt))
            obtain ⟨g4, c4, hg4, hS4, hl4, _⟩ := hnow'.there (by omega)
            cases hg4
            have hsn : (lg.take (i + 1)).foldl putA ws = putA ((lg.take i).foldl putA ws) (lg[i]?.getD noAcc) := by
              rw [List.take_add_one, List.foldl_append]
              simp [hlt]
            have hwl : ((lg.take i).foldl putA ws).length = ws.length := foldl_putA_length _ _
            replace hsn := Mr.hid hsn
            generalize hcur : (lg.take i).foldl putA ws = cur at *
            generalize lg[i]?.getD noAcc = y at *
            obtain ⟨y0, y1, y2, y3, y4, y5, y6⟩ := y
            simp only at o1 o2 o3
            obtain ⟨j, rfl⟩ : ∃ j : Nat, y3 = j := ⟨y3.toNat, by omega⟩
            have hjl : j < ws.length := by omega
            have cj := hnow'.cells (g := g4) rfl j _ (wrd_get cur j (by omega))
            have fj := hnow'.frozen (g := g4) rfl j
            have d0 := cs 0 _ (by decide) rfl
            have d1 := cs 1 _ (by decide) rfl
            have d2 := cs 2 _ (by decide) rfl
            have d3 := cs 3 _ (by decide) rfl
            have d4 := cs 4 _ (by decide) rfl
            have d5 := cs 5 _ (by decide) rfl
            have d6 := cs 6 _ (by decide) rfl
            simp only [Nat.add_zero] at d0
            clear cs
            have hws := B'.size
            have cn1 : ∀ o, (wr.alloc o).cell? ⟨gn, i, none⟩ = some (.int .i64 (i : Int)) := fun o => by rw [World.cell?_alloc_past _ _ _ (by omega)]; exact cn0
            have cj1 : ∀ o, (wr.alloc o).cell? ⟨g4, j, none⟩ = some (.int .u64 (cur[j]?.getD 0)) := fun o => by rw [World.cell?_alloc_past _ _ _ hl4]; exact cj
            have fj1 : ∀ o p, ((wr.alloc o).alloc p).frozen? ⟨g4, j, none⟩ = false := fun o p => by rw [World.frozen?_alloc_past _ _ _ (by simp; omega), World.frozen?_alloc_past _ _ _ hl4]; exact fj
            have cj2 : ∀ o p, ((wr.alloc o).alloc p).cell? ⟨g4, j, none⟩ = some (.int .u64 (cur[j]?.getD 0)) := fun o p => by rw [World.cell?_alloc_past _ _ _ (by simp; omega)]; exact cj1 o
            have e1 : decide ((ws.length : Int) ≤ (j : Int)) = false := by simp; omega
            have e2 : decide (ws.length ≤ j) = false := by simp; omega
            have e3 : decide ((j : Int) < 0) = false := by simp
            have hnw : ∀ o p, Has ((wr.alloc o).alloc p) (fun k => w3.heap.size ≤ k) 23 1 (.slice (some ⟨g4, 0, none⟩) ws.length cnow) ws.length (wrd cur) := fun o p => (hnow'.alloc o).alloc p
            replace hnow' := Mr.hid hnow'
            have hB2 : ∀ o p, Below w3.heap.size w3 ((wr.alloc o).alloc p) := fun o p => (B'.alloc hws o).alloc (by simp; omega) p
            have V := fun W' => writes_any y0 y1 y2 (j : Int) y4 y5 y6 W'
            clear hok hvq' hvn' hm
            go_upto_region 18 with fail
            go_cut [96] (fun s wx => s = .bool false ∧ ∃ m, wx = (wr.alloc (.cells #[.int .i64 y0, .int .i64 y1, .int .i64 y2, .int .i64 (j : Int), .int .u64 y4, .int .u64 y5, .int .u64 y6] 57)).drewN m)
            case first =>
              clear V
              cases hk : (y2 == 2)
              · have hk' : (y2 != 2) = true := by simp [bne, hk]
                have hsaw : y6 = cur[j]?.getD 0 := by simpa using o3 (by simpa using hk)
                generalize cur[j]?.getD 0 = cj0 at *
                subst hsaw
                clear o3 o1 o2 hcur hmin hlen hrep hfin hwl hsn hnw hB2 cj2 fj1 hB3 B hws hl4 hle8 hlgle hroom hno hr hs
                go_quiet (fail)
                go_wp2
                go_meet
                case rel => exact ⟨rfl, _, rfl⟩
              · have hk' : (y2 != 2) = false := by simp [bne, hk]
                generalize cur[j]?.getD 0 = cj0 at *
                clear o3 o1 o2 hcur hmin hlen hrep hfin hwl hsn hnw hB2 cj2 fj1 hB3 B hws hl4 hle8 hlgle hroom hno hr hs
                go_quiet (fail)
                go_wp2
                go_meet
                case rel => exact ⟨rfl, _, rfl⟩
            case rest =>
              obtain ⟨rfl, m, rfl⟩ := hcut
              have hdr : ∀ p q : Obj, Below w3.heap.size w3 (((wr.alloc p).drewN m).alloc q) := fun p q => by
                have h1 := B'.alloc hws p
                exact ⟨h1.os, h1.tape, h1.output, by have := h1.size; simp at this ⊢; omega, fun k hk => (Below.heap_alloc _ q k (by simp; omega)).trans (h1.block k hk)⟩
              have hnd : ∀ p q : Obj, Has (((wr.alloc p).drewN m).alloc q) (fun k => w3.heap.size ≤ k) 23 1 (.slice (some ⟨g4, 0, none⟩) ws.length cnow) ws.length (wrd cur) := fun p q =>
                (Has.kept (w := wr.alloc p) (hnow'.out.alloc p) (w' := (wr.alloc p).drewN m) (fun _ _ => rfl) (fun k hk => ((hnow'.out.alloc p).lt k hk).1)).alloc q
              have hnd0 : ∀ p : Obj, Has ((wr.alloc p).drewN m) (fun k => w3.heap.size ≤ k) 23 1 (.slice (some ⟨g4, 0, none⟩) ws.length cnow) ws.length (wrd cur) := fun p =>
                Has.kept (w := wr.alloc p) (hnow'.out.alloc p) (w' := (wr.alloc p).drewN m) (fun _ _ => rfl) (fun k hk => ((hnow'.out.alloc p).lt k hk).1)
              have hdr0 : ∀ p : Obj, Below w3.heap.size w3 ((wr.alloc p).drewN m) := fun p => by
                have h1 := B'.alloc hws p
                exact ⟨h1.os, h1.tape, h1.output, by have := h1.size; simp at this ⊢; omega, fun k hk => h1.block k hk⟩
              clear cj cj1 cj2 fj fj1 cn0 cn1 hnw hB2 d0 d1 d2 d3 d4 d5 d6 o1 o2 o3
              have cjd := fun p q => (hnd p q).cells (g := g4) rfl j _ (wrd_get cur j (by omega))
              have fjd := fun p q => (hnd p q).frozen (g := g4) rfl j
              cases hw : wrt ⟨y0, y1, y2, (j : Int), y4, y5, y6⟩
              · rw [hw] at V
                have hp : putA cur ⟨y0, y1, y2, (j : Int), y4, y5, y6⟩ = cur := by simp [putA, hw]
                rw [hp] at hsn
                clear hp
                go_wp2_with (go_at_call 24; refine (V _).mono ?_; clear V; rintro e w6 ⟨rfl, rfl⟩)
                go_roundg (gk - 1)
                case measure => omega
                case rel => exact ⟨i + 1, by simp, by omega, by rw [hsn.out]; exact hnd _ _, hdr _ _⟩
              · rw [hw] at V
                have hp : putA cur ⟨y0, y1, y2, (j : Int), y4, y5, y6⟩ = cur.set j y5 := by simp [putA, hw]
                rw [hp] at hsn
                clear hp
                go_wp2_with (go_at_call 24; refine (V _).mono ?_; clear V; rintro e w6 ⟨rfl, rfl⟩)
                go_roundg (gk - 1)
                case measure => omega
                case rel => exact ⟨i + 1, by simp, by omega, by rw [hsn.out, wrd_set]; exact (has_store (hnd0 _) j _).alloc _, ((hdr0 _).setCell (p := ⟨g4, j, none⟩) hS4 _).alloc (by simp; omega) _⟩
          · obtain rfl : i = lg.length := by omega
            rw [List.take_length, ← hfin.out] at hnow'
            have hmw := hm.out.below (hB3.trans (B'.mono hB3.size))
            have X := words_any hmw
            have hnow2 : Has wr (fun k => w3.heap.size ≤ k) 23 1 (.slice anow ws.length cnow) sw.length (wrd sw) := by rw [hlen]; exact hnow'
            have Y := fun (w7 : World) (v7 : Value) (h7 : Below wr.heap.size wr w7) (hv : Has w7 (fun k => wr.heap.size ≤ k) 23 1 v7 sw.length (wrd sw)) => sameWords_same (hnow2.below h7) hv (by rw [hlen]; omega)
            clear hmw hm hok hvq' hvn' hnow2 hnow' hmin
            replace hlen := Mr.hid hlen
            go_wp2_with (first | (go_at_call 19; refine X.mono ?_; clear X; rintro e w7 ⟨v7, rfl, hv7, hB7⟩; have Y7 := Y w7 v7 hB7 hv7; clear Y; obtain ⟨a7, c7, rfl, _⟩ := hv7.form) | (go_at_call 25; refine Y7.mono ?_; clear Y7; rintro e w8 ⟨rfl, hB8⟩))
            go_ret
            have s3 := hB3.size
            have s1 := B.size
            have s7 := hB7.size
            have s4 := B'.size
            exact ⟨rfl, ((B.trans (hB3.mono s1)).trans (B'.mono (by omega))).trans ((hB7.mono (by omega)).trans (hB8.mono (by omega)))⟩
end Go.Proofs.Ythbhkkfjfcfhnaa.Me
