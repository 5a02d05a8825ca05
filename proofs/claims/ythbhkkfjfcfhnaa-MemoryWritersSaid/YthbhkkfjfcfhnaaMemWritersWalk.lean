/-
  THE LAW MemoryWriters.
-/
import Derived.Test.YthbhkkfjfcfhnaaMemWriter
import Derived.Test.YthbhkkfjfcfhnaaMemNilP
namespace Go.Proofs.Ythbhkkfjfcfhnaa.Me
open Go.RowKit Mr
set_option linter.unusedVariables false
/-- One access more of a script, the memory all beyond w's blocks. -/
theorem access_run {w wr : World} {b : Nat} {ws : List Int} {os : List O} {i : Nat} (hi : i < os.length) (hb : Hid ((os.length + os.length / 4 + 192) * 56 ≤ 281474976710656)) (hM : MemS wr (fun k => w.heap.size ≤ k) b (runs ws (os.take i)) 0) (B : Below w.heap.size w wr) :
    Calls Try.prog 23 #[.pointer (some ⟨b, 0, none⟩), .agg #[.int .i64 (os[i]?.getD noO).k, .int .i64 (os[i]?.getD noO).th, .int .i64 (os[i]?.getD noO).ad, .int .i64 (os[i]?.getD noO).n, .int .u64 (os[i]?.getD noO).old, .int .u64 (os[i]?.getD noO).w]] wr fun e w' =>
      e = .returned (.tuple #[]) ∧ MemS w' (fun k => w.heap.size ≤ k) b (runs ws (os.take (i + 1))) 0 ∧ Below w.heap.size w w' := by
  have hs := B.size
  refine (access_any hM (runs_roomy ws os i hi hb.out) (os[i]?.getD noO)).mono ?_
  rintro e w' ⟨rfl, h1, h2⟩
  rw [runs_snoc ws os i hi]
  exact ⟨rfl, h1.mono (fun k hk => by rcases hk with hk | hk <;> omega), B.trans (h2.below (fun k hk => hk) hs)⟩
theorem lastW_succ (ad : Int) (lg : List Acc) (i : Nat) (hi : i < lg.length) : lastW ad (ent lg 0 (i + 1)) = if ((lg[i]?.getD noAcc).ad == ad && wrt (lg[i]?.getD noAcc)) = true then ((lg[i]?.getD noAcc).th, (i : Int)) else lastW ad (ent lg 0 i) := by
  rw [ent_succ, lastW_snoc]
  simp
set_option maxHeartbeats 4000000 in
set_option maxRecDepth 100000 in
theorem law_writers (a : Option Addr) (n cap : Nat) (ws : List Int) (ao : Option Addr) (no co : Nat) (os : List O) (ad : Int) (w : World) (hs : Src w a n cap ws) (ho : OpsAt w ao no os) (hr : (os.length + os.length / 4 + 192) * 56 ≤ 281474976710656) (_ : (Lit.int .i64 ad).wf = true) :
    Calls Try.prog 8 #[.slice a n cap, .slice ao no co, .int .i64 ad] w fun e w' => e = .returned (.bool true) ∧ Below w.heap.size w w' := by
  have hno : os.length ≤ 5026338869641 := by omega
  replace hr := Mr.hid hr
  by_cases hbig : 8192 < n
  · have hd : decide (8192 < (n : Int)) = true := by simp; omega
    go_enter Try.func8, Try.ntmps8
    go_wp2_with (go_at_call 21; refine (awake_any _).mono ?_; rintro e w1 ⟨rfl, hB1⟩)
    go_ret
    exact ⟨rfl, hB1⟩
  have hd : decide (8192 < (n : Int)) = false := by simp; omega
  have C := made_any _ _ _ _ _ hs (by omega)
  obtain ⟨hnl, ho'⟩ := id ho
  subst hnl
  go_enter Try.func8, Try.ntmps8
  go_wp2_with (go_at_call 22; refine C.mono ?_; clear C; rintro e w1 ⟨b, rfl, hM, hB1⟩)
  go_loopg [8] os.length (fun k s wr => ∃ i : Nat, s = .int .i64 (i : Int) ∧ i + k = os.length ∧ MemS wr (fun k => w.heap.size ≤ k) b (runs ws (os.take i)) 0 ∧ Below w.heap.size w wr)
  case atStart => exact ⟨0, rfl, by omega, hM, hB1⟩
  case round =>
    obtain ⟨i, rfl, hi, hMi, B⟩ := hrel
    by_cases hlt : i < os.length
    · have D := access_run hlt hr hMi B
      rcases (ho.below B).2 with h0 | ⟨bo, oo, rfl, hbo, hc⟩
      · rw [h0] at hlt; simp at hlt
      obtain ⟨c0, c1, c2, c3, c4, c5⟩ := hc i hlt
      clear hc ho'
      generalize os[i]?.getD noO = o at *
      replace hMi := Mr.hid hMi
      go_wp2_with (go_at_call 23; refine D.mono ?_; clear D; rintro e w2 ⟨rfl, hM2, hB2⟩)
      go_roundg (gk - 1)
      case measure => omega
      case rel => exact ⟨i + 1, by simp, by omega, hM2, hB2⟩
    · obtain rfl : i = os.length := by omega
      rw [List.take_length] at hMi
      have hrep := runs_rep ws os
      have hlgle := runs_lg_le ws os
      generalize runs ws os = s at *
      obtain ⟨sw, lg, ah⟩ := s
      obtain ⟨vw, vl, va, hm⟩ := hMi
      simp only at hm hlgle
      have hlen : sw.length = ws.length := hrep.len
      have hroom : (lg.length + lg.length / 4 + 192) * 56 ≤ 281474976710656 := room_mono hlgle hr.out (Nat.le_refl _)
      have L := logged_any hm hroom 0 ((os.length : Int) + 1)
      have hmin : min (lg.length - (0 : Int).toNat) ((os.length : Int) + 1).toNat = lg.length := by simp; omega
      simp only [hmin] at L
      replace hroom := Mr.hid hroom
      replace hm := Mr.hid hm
      have hwn := hs.1
      clear ho ho' hM hB1 hi hlt hmin hrep
      by_cases hin : 0 ≤ ad ∧ ad < ws.length
      · obtain ⟨j, rfl⟩ : ∃ j : Nat, ad = j := ⟨ad.toNat, by omega⟩
        have hd2 : decide ((n : Int) ≤ (j : Int)) = false := by simp; omega
        have hd2' : decide (n ≤ j) = false := by simp; omega
        have hd2n : ¬ n ≤ j := by omega
        have hlsm : lg.length ≤ 5026338869641 := by omega
        have hjs : j < sw.length := by omega
        replace hlen := Mr.hid hlen
        replace hwn := Mr.hid hwn
        clear hin
        go_wp2_with (first | (go_at_call 18; refine L.mono ?_; clear L; rintro e w3 ⟨vn, vq, k, rfl, rfl, hvn, hvq, hB3⟩; have N3 := count_any (hm.out.below hB3); have X3 := writer_any (hm.out.below hB3) hlsm j hjs; obtain ⟨an, cn, rfl, _⟩ := hvn.form; obtain ⟨aq, cq, rfl, _⟩ := hvq.form) | (go_at_call 13; refine N3.mono ?_; clear N3; rintro e w4 ⟨rfl, hw4⟩; obtain rfl := hw4.symm) | (go_at_call 16; refine X3.mono ?_; clear X3; rintro e w5 ⟨rfl, hB5⟩))
        have hvq' : Has w3 (fun k => wr.heap.size ≤ k) 57 7 (.slice aq lg.length cq) lg.length (lgc lg) := by
          have := hvq
          simp only [Int.toNat_zero, ent_all] at this
          exact this
        clear hvq hvn
        go_loopg [15, 16, 17] lg.length (fun k s15 s16 s wy => ∃ i : Nat, s15 = .int .i64 (lastW j (ent lg 0 i)).1 ∧ s16 = .int .i64 (lastW j (ent lg 0 i)).2 ∧ s = .int .i64 (i : Int) ∧ i + k = lg.length ∧ Below w5.heap.size w5 wy)
        case atStart => exact ⟨0, rfl, rfl, rfl, by omega, Below.refl _ _⟩
        case round =>
          obtain ⟨i, rfl, rfl, rfl, hi, B'⟩ := hrel
          by_cases hlt : i < lg.length
          · obtain ⟨gq, cq', hgq, _, hql, _⟩ := hvq'.there (by omega)
            cases hgq
            have s5 := hB5.size
            have cs : ∀ t u, t < 7 → (lg[i]?.getD noAcc).cells[t]? = some u → wr.cell? ⟨gq, i * 7 + t, none⟩ = some u := fun t u ht hu =>
              ((B'.cell (p := ⟨gq, i * 7 + t, none⟩) (by show gq < _; omega)).trans (hB5.cell (p := ⟨gq, i * 7 + t, none⟩) hql)).trans (hvq'.cells (g := gq) rfl _ _ ((lgc_get lg _ hlt t ht).trans hu))
            have sn := lastW_succ (j : Int) lg i hlt
            generalize lg[i]?.getD noAcc = y at *
            obtain ⟨y0, y1, y2, y3, y4, y5, y6⟩ := y
            simp only at sn
            have d0 := cs 0 _ (by decide) rfl
            have d1 := cs 1 _ (by decide) rfl
            have d2 := cs 2 _ (by decide) rfl
            have d3 := cs 3 _ (by decide) rfl
            have d4 := cs 4 _ (by decide) rfl
            have d5 := cs 5 _ (by decide) rfl
            have d6 := cs 6 _ (by decide) rfl
            simp only [Nat.add_zero] at d0
            clear cs hm hvq'
            have V := writes_any y0 y1 y2 y3 y4 y5 y6 wr
            have hws := B'.size
            cases he : (y3 == (j : Int))
            · have sn' : lastW (j : Int) (ent lg 0 (i + 1)) = lastW (j : Int) (ent lg 0 i) := by rw [sn, he]; simp
              replace sn' := Mr.hid sn'
              clear sn V
              go_wp2
              go_roundg (gk - 1)
              case measure => omega
              case rel => exact ⟨i + 1, by rw [sn'.out], by rw [sn'.out], by simp, by omega, B'⟩
            · cases hw : wrt ⟨y0, y1, y2, y3, y4, y5, y6⟩
              · have sn' : lastW (j : Int) (ent lg 0 (i + 1)) = lastW (j : Int) (ent lg 0 i) := by rw [sn, he, hw]; simp
                rw [hw] at V
                replace sn' := Mr.hid sn'
                clear sn
                go_wp2_with (go_at_call 24; refine V.mono ?_; clear V; rintro e w6 ⟨rfl, rfl⟩)
                go_roundg (gk - 1)
                case measure => omega
                case rel => exact ⟨i + 1, by rw [sn'.out], by rw [sn'.out], by simp, by omega, B'.alloc hws _⟩
              · have sn' : lastW (j : Int) (ent lg 0 (i + 1)) = (y1, (i : Int)) := by rw [sn, he, hw]; simp
                rw [hw] at V
                replace sn' := Mr.hid sn'
                clear sn
                have d1' : ∀ o, (wr.alloc o).cell? ⟨gq, i * 7 + 1, none⟩ = some (.int .i64 y1) := fun o => by rw [World.cell?_alloc_past _ _ _ (by omega)]; exact d1
                go_wp2_with (go_at_call 24; refine V.mono ?_; clear V; rintro e w6 ⟨rfl, rfl⟩)
                go_roundg (gk - 1)
                case measure => omega
                case rel => exact ⟨i + 1, by rw [sn'.out], by rw [sn'.out], by simp, by omega, B'.alloc hws _⟩
          · obtain rfl : i = lg.length := by omega
            clear hm hvq'
            go_wp2_with (go_at_call 10; refine (num_any _ _).mono ?_; rintro e w7 ⟨rfl, hw7⟩; obtain rfl := hw7.symm)
            go_ret
            have s3 := hB3.size
            have s1 := B.size
            have s5 := hB5.size
            exact ⟨by simp, ((B.trans (hB3.mono s1)).trans (hB5.mono (by omega))).trans (B'.mono (by omega))⟩
      · have hout : ad < 0 ∨ (sw.length : Int) ≤ ad := by omega
        have hd3 : (decide (ad < 0) || decide ((n : Int) ≤ ad)) = true := by simp; omega
        have X := fun (w3 : World) (hB3 : Below wr.heap.size wr w3) => writer_no (hm.out.below hB3) ad hout
        replace hlen := Mr.hid hlen
        replace hwn := Mr.hid hwn
        clear hin hout
        by_cases hn : ad < 0
        · clear hd3
          go_wp2_with (first | (go_at_call 18; refine L.mono ?_; clear L; rintro e w3 ⟨vn, vq, k, rfl, rfl, hvn, hvq, hB3⟩; have N3 := count_any (hm.out.below hB3); have X3 := X w3 hB3; clear X; obtain ⟨an, cn, rfl, _⟩ := hvn.form; obtain ⟨aq, cq, rfl, _⟩ := hvq.form) | (go_at_call 13; refine N3.mono ?_; clear N3; rintro e w4 ⟨rfl, hw4⟩; obtain rfl := hw4.symm) | (go_at_call 16; refine X3.mono ?_; clear X3; rintro e w5 ⟨rfl, hB5⟩) | (go_at_call 10; refine (num_any _ _).mono ?_; rintro e w7 ⟨rfl, hw7⟩; obtain rfl := hw7.symm))
          go_ret
          have s3 := hB3.size
          have s1 := B.size
          exact ⟨rfl, (B.trans (hB3.mono s1)).trans (hB5.mono (by omega))⟩
        · have hn0 : decide (ad < 0) = false := by simpa using hn
          have hn1 : decide ((n : Int) ≤ ad) = true := by rw [hn0] at hd3; simpa using hd3
          clear hd3 hn
          go_wp2_with (first | (go_at_call 18; refine L.mono ?_; clear L; rintro e w3 ⟨vn, vq, k, rfl, rfl, hvn, hvq, hB3⟩; have N3 := count_any (hm.out.below hB3); have X3 := X w3 hB3; clear X; obtain ⟨an, cn, rfl, _⟩ := hvn.form; obtain ⟨aq, cq, rfl, _⟩ := hvq.form) | (go_at_call 13; refine N3.mono ?_; clear N3; rintro e w4 ⟨rfl, hw4⟩; obtain rfl := hw4.symm) | (go_at_call 16; refine X3.mono ?_; clear X3; rintro e w5 ⟨rfl, hB5⟩) | (go_at_call 10; refine (num_any _ _).mono ?_; rintro e w7 ⟨rfl, hw7⟩; obtain rfl := hw7.symm))
          go_ret
          have s3 := hB3.size
          have s1 := B.size
          exact ⟨rfl, (B.trans (hB3.mono s1)).trans (hB5.mono (by omega))⟩
end Go.Proofs.Ythbhkkfjfcfhnaa.Me
