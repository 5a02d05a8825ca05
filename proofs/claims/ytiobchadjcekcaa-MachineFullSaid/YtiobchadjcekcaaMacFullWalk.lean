/-
  MachineFull: the walk.
-/
import Derived.Test.YtiobchadjcekcaaMacFullP
import Derived.Test.YtiobchadjcekcaaMacLive
import Derived.BigQuiet
import Derived.Deep.DeepCutAuto
import Derived.Deep.LoopGhost
namespace Go.Proofs.Ytiobchadjcekcaa.Ma
open Go.RowKit Go.Shelf Mr Me
/-- Behind the bumps: j moves more. -/
def Gm (k : Nat) (ms : List Mv) (j : Nat) : Pm := (Fm k).play (ms.take j)
theorem gm_next (k : Nat) (ms : List Mv) (j : Nat) (hj : j < ms.length) : Gm k ms (j + 1) = ((Gm k ms j).move (ms[j]?.getD noMv).th (ms[j]?.getD noMv).op (ms[j]?.getD noMv).arg (ms[j]?.getD noMv).data).1 := play_snoc (Fm k) ms j hj
theorem move_full (P : Pm) (th op arg data : Int) (h : 65536 ≤ P.n) : P.move th op arg data = (P, false) := by simp [Pm.move, h]
theorem gm_n (k : Nat) (hk : k ≤ 65536) (ms : List Mv) (j : Nat) (hj : j ≤ ms.length) : (Gm k ms j).n = min (k + j) 65536 := by
  induction j with
  | zero => simp [Gm, Pm.play, fm_n k hk]; omega
  | succ j ih =>
    have := ih (by omega)
    rw [gm_next k ms j (by omega)]
    by_cases h : 65536 ≤ (Gm k ms j).n
    · rw [move_full _ _ _ _ _ h]
      simp only
      omega
    · rw [move_n _ _ _ _ _ (by omega)]
      omega
theorem run_fld0 (a1 : Option Addr) (n1 c1 : Nat) (a2 : Option Addr) (n2 c2 : Nat) (a4 : Option Addr) (n4 c4 : Nat) (W : World) : (Instr.field 41 (.agg #[.slice a1 n1 c1, .slice a2 n2 c2, .slice none 0 0, .slice a4 n4 c4]) 0).run Try.prog W = .ok (.slice a1 n1 c1) W := by kernel_rfl
set_option maxRecDepth 100000 in
set_option maxHeartbeats 2000000 in
theorem full_walk (w : World) (am : Option Addr) (nm cm : Nat) (ms : List Mv) (hm : MvAt w am nm ms) (hnm : nm ≤ cm) (u : Int) :
    Calls Try.prog 3 #[.slice am nm cm, .int .i64 u] w fun e w' => e = .returned (.bool true) ∧ Below w.heap.size w w' := by
  have O := fun o => own_any 1 (w.alloc o)
  have hsz0 : (w.alloc (.cells #[.int .u64 0] 27)).heap.size = w.heap.size + 1 := by simp
  have hB0 := (Below.refl w.heap.size w).alloc (Nat.le_refl _) (.cells #[.int .u64 0] 27)
  have hSrc : ∀ w1 : World, Below (w.heap.size + 1) (w.alloc (.cells #[.int .u64 0] 27)) w1 → Src w1 (some ⟨w.heap.size, 0, none⟩) 1 1 [0] := fun w1 hB => by
    refine ⟨rfl, .inr ⟨_, rfl, fun j uu hu => ?_⟩⟩
    have hb : w1.heap[w.heap.size]? = some (.cells #[.int .u64 0] 27 (0, 0)) := (hB.block _ (by omega)).trans (heap_alloc_new w _)
    exact World.news_of_block hb j uu hu
  have NW := fun (w1 : World) (hB : Below (w.heap.size + 1) (w.alloc (.cells #[.int .u64 0] 27)) w1) {K : Nat → Prop} {km s1 a1 s2 a2 : Nat} (hK : Kt w1 K km 1 s1 a1 s2 a2) (hKl : ∀ k, K k → k < w1.heap.size) => newM_any w1 2 (by omega) (by omega) (some ⟨w.heap.size, 0, none⟩) 1 1 [0] (hSrc w1 hB) (by omega) hK hKl
  have ham : 40 < nm → ∃ ad, am = some ad := fun h => by
    rcases hm.2 with h0 | ⟨b, off, h', _⟩
    · have := hm.1; rw [h0] at this; simp at this; omega
    · exact ⟨_, h'⟩
  replace hm := Mr.hid hm
  replace ham := Mr.hid ham
  replace hSrc := Mr.hid hSrc
  replace hB0 := Mr.hid hB0
  go_enter Try.func3, Try.ntmps3
  go_upto_region 4 with (first
    | (go_at_call 10; refine (O _).mono ?_; clear O; rintro e w1 ⟨rfl, hK, hB1⟩; rw [hsz0] at hB1 hK; have NW1 := NW w1 hB1 hK (fun k hk => hk.2); clear NW; have Bw1 : Below w.heap.size w w1 := hB0.out.trans (hB1.mono (by omega)); have z1 := hB1.size; rw [hsz0] at z1 ⊢; replace hK := Mr.hid hK; replace hB1 := Mr.hid hB1; replace Bw1 := Mr.hid Bw1)
    | (go_at_call 9; refine NW1.mono ?_; clear NW1; rintro e w2 ⟨q, U, rfl, hR, hvs, hUl, hB2⟩; replace hR := Mr.hid hR; replace hB2 := Mr.hid hB2; replace hUl := Mr.hid hUl; replace hvs := Mr.hid hvs))
  have L0 : Lv w2 U (w.heap.size + 1) w1.heap.size q (Pm.new 2 [0]) := ⟨hR.out, hUl.out, hvs.out⟩
  have Bw2 : Below w.heap.size w w2 := Bw1.out.trans (hB2.out.mono Bw1.out.size)
  clear hR hUl hvs hK hB1 Bw1 hB2 hB0 hSrc hsz0
  generalize w1.heap.size = k1 at *
  replace L0 := Mr.hid L0
  replace Bw2 := Mr.hid Bw2
  go_upto_if 26 with fail
  go_cut [0] (fun s wx => (∃ n' : Nat, s = .slice am n' cm ∧ n' ≤ 40 ∧ n' ≤ nm) ∧ wx = w2)
  case first =>
    by_cases h40 : 40 < nm
    · obtain ⟨ad, rfl⟩ := ham.out h40
      have d1 : decide (40 < (nm : Int)) = true := by simp; omega
      have d2 : decide (40 < nm) = true := by simp; omega
      have d3 : 40 ≤ cm := by omega
      go_wp2
      go_meet
      case rel => exact ⟨⟨40, rfl, Nat.le_refl _, by omega⟩, rfl⟩
    · have d1 : decide (40 < (nm : Int)) = false := by simp; omega
      have d2 : decide (40 < nm) = false := by simp; omega
      go_wp2
      go_meet
      case rel => exact ⟨⟨nm, rfl, by omega, Nat.le_refl _⟩, rfl⟩
  case rest =>
    obtain ⟨⟨n', rfl, hn40, hnn⟩, hw⟩ := hcut
    obtain rfl := hw.symm
    go_upto_region 6 with fail
    go_cut [34] (fun t wc => t = .bool (decide (u < 0) || decide (20 < u)) ∧ wc = w2)
    case first =>
      cases e1 : decide (u < 0) <;> go_wp2 <;> go_meet <;> (simp at e1 ⊢; try omega)
    case rest =>
      obtain ⟨rfl, hw⟩ := hcut
      obtain rfl := hw.symm
      go_upto_if 34 with fail
      go_cut [1] (fun s wx => (∃ fs : Nat, s = .int .i64 (fs : Int) ∧ fs ≤ 20) ∧ wx = w2)
      case first =>
        cases e1 : (decide (u < 0) || decide (20 < u))
        · rw [Bool.or_eq_false_iff] at e1
          have e2 : ¬ u < 0 := by simpa using e1.1
          have e3 : ¬ 20 < u := by simpa using e1.2
          obtain ⟨un, rfl⟩ : ∃ un : Nat, u = un := ⟨u.toNat, by omega⟩
          go_wp2
          go_meet
          case rel => exact ⟨⟨un, rfl, by omega⟩, rfl⟩
        · go_wp2
          go_meet
          case rel => exact ⟨⟨3, rfl, by omega⟩, rfl⟩
      case rest =>
        obtain ⟨⟨fs, rfl, hfs⟩, hw⟩ := hcut
        obtain rfl := hw.symm
        go_wp2
        go_loopg [7] (65536 - fs) (fun k s wr => ∃ (i : Nat) (U' : Nat → Prop), s = .int .i64 (i : Int) ∧ i + k = 65536 - fs ∧ Lv wr U' (w.heap.size + 1) k1 q (Fm i) ∧ Below w.heap.size w wr)
        case atStart => exact ⟨0, U, rfl, by omega, L0.out, Bw2.out⟩
        case round =>
          obtain ⟨i, U', rfl, hi, hL, hB⟩ := hrel
          clear L0 Bw2
          by_cases hlt : i < 65536 - fs
          · have d0 : decide ((i : Int) < 65536 - (fs : Int)) = true := by simp; omega
            have hz := hB.size
            have MV := fun (o : Obj) (th op : Int) => live_move (hL.below ((Below.refl wr.heap.size wr).alloc (Nat.le_refl _) o)) th op 0 0
            have fin : ∀ (o : Obj) (w3 : World) (m : Mv), gen i = m → (∃ U'', Lv w3 U'' (w.heap.size + 1) k1 q ((Fm i).move m.th m.op m.arg m.data).1 ∧ (∀ k, U'' k → U' k ∨ (wr.alloc o).heap.size ≤ k) ∧ Fr (wr.alloc o) w3 U') → ∃ U'', Lv w3 U'' (w.heap.size + 1) k1 q (Fm (i + 1)) ∧ Below w.heap.size w w3 := fun o w3 m hm' ⟨U'', h1, h2, h3⟩ => by
              refine ⟨U'', ?_, (hB.alloc hB.size o).trans (h3.below (fun k hk => by have := hL.u k hk; omega) (by simp; omega))⟩
              have : Fm (i + 1) = ((Fm i).move m.th m.op m.arg m.data).1 := by rw [← hm']; rfl
              rw [this]
              exact h1
            replace hL := Mr.hid hL
            replace hB := Mr.hid hB
            by_cases h8 : i % 8 < 2
            · have d8 : decide ((i : Int) % 8 < 2) = true := by simp; omega
              have hg : gen i = ⟨(i : Int) % 2, 2, 0, 0⟩ := by unfold gen; rw [if_pos h8]; simp
              have fin' := fun o w3 => fin o w3 _ hg
              clear fin hg
              replace fin' := Mr.hid fin'
              go_wp2_with (go_at_call 11; refine (MV _ _ _).mono ?_; clear MV; rintro e w3 ⟨rfl, hO⟩; obtain ⟨U'', r1, r2⟩ := fin'.out _ w3 hO; clear fin' hO; replace r1 := Mr.hid r1; replace r2 := Mr.hid r2)
              go_roundg (gk - 1)
              case measure => omega
              case rel => exact ⟨i + 1, U'', by simp, by omega, r1.out, r2.out⟩
            · have d8 : decide ((i : Int) % 8 < 2) = false := by simp; omega
              have hg : gen i = ⟨(i : Int) % 2, 0, 0, 0⟩ := by unfold gen; rw [if_neg h8]; simp
              have fin' := fun o w3 => fin o w3 _ hg
              clear fin hg
              replace fin' := Mr.hid fin'
              go_wp2_with (go_at_call 11; refine (MV _ _ _).mono ?_; clear MV; rintro e w3 ⟨rfl, hO⟩; obtain ⟨U'', r1, r2⟩ := fin'.out _ w3 hO; clear fin' hO; replace r1 := Mr.hid r1; replace r2 := Mr.hid r2)
              go_roundg (gk - 1)
              case measure => omega
              case rel => exact ⟨i + 1, U'', by simp, by omega, r1.out, r2.out⟩
          · obtain rfl : i = 65536 - fs := by omega
            have d0 : decide (((65536 - fs : Nat) : Int) < 65536 - (fs : Int)) = false := by simp; omega
            have MS := live_moves hL
            rw [show (((Fm (65536 - fs)).n : Nat) : Int) = 65536 - (fs : Int) from by rw [fm_n _ (by omega)]; omega] at MS
            have RN := live_run hL
            have many := fm_many (65536 - fs) (by omega) (by omega)
            have GN := fun j hj => gm_n (65536 - fs) (by omega) ms j hj
            obtain ⟨kk, hkk⟩ : ∃ kk, kk = 65536 - fs := ⟨_, rfl⟩
            have hG0 : Gm kk ms 0 = Fm kk := by simp [Gm, Pm.play]
            have hi0 : ((65536 - fs : Nat) : Int) = 65536 - (fs : Int) := by omega
            clear d0
            rw [← hkk] at many GN RN hL hi0 ⊢
            have hfld := run_fld0
            have e1 : decide (((Fm kk).cls.length : Int) < 10000) = false := by simp; omega
            have e2 : decide ((Fm kk).cls.length < 10000) = false := by simp; omega
            have hz := hB.size
            have next := fun (w6 : World) (hB6 : Below wr.heap.size wr w6) => (show Lv w6 U' (w.heap.size + 1) k1 q (Gm kk ms 0) ∧ Below w.heap.size w w6 from ⟨by rw [hG0]; exact hL.below hB6, hB.trans (hB6.mono hz)⟩)
            replace hL := Mr.hid hL
            replace hB := Mr.hid hB
            replace next := Mr.hid next
            replace GN := Mr.hid GN
            replace hG0 := Mr.hid hG0
            replace hkk := Mr.hid hkk
            replace hi0 := Mr.hid hi0
            have d0' : decide ((kk : Int) < 65536 - (fs : Int)) = false := by have := hi0.out; simp; omega
            go_wp2_with (first | (go_at_call 12; refine MS.mono ?_; clear MS; rintro e w' ⟨rfl, hw⟩; obtain rfl := hw.symm) | (go_at_call 13; refine RN.mono ?_; clear RN; rintro e w6 ⟨v1, v2, v4, rfl, hv1, hv2, hv4, hB6⟩; obtain ⟨p1, q1, rfl, _⟩ := hv1.form; obtain ⟨p2, q2, rfl, _⟩ := hv2.form; obtain ⟨p4, q4, rfl, _⟩ := hv4.form; have nx := next.out w6 hB6; clear next hv1 hv2 hv4 hB6; replace nx := Mr.hid nx))
            go_loopg [65] n' (fun k s wr => ∃ (j : Nat) (U' : Nat → Prop), s = .int .i64 (j : Int) ∧ j + k = n' ∧ Lv wr U' (w.heap.size + 1) k1 q (Gm kk ms j) ∧ Below w.heap.size w wr)
            case atStart => exact ⟨0, U', rfl, by omega, nx.out.1, nx.out.2⟩
            case round =>
              obtain ⟨j, V, rfl, hj, hL2, hB2⟩ := hrel
              clear nx hL hB
              by_cases hjl : j < n'
              · have hml := hm.out.1
                rcases hm.out.2 with h0 | ⟨bo, oo, rfl, hbo, hc⟩
                · rw [h0] at hml; simp at hml; omega
                obtain ⟨c0, c1, c2, c3⟩ := hc j (by omega)
                have hcW := fun (t : Nat) (uu : Value) (hu : w.cell? ⟨bo, t, none⟩ = some uu) => (hB2.cell (p := ⟨bo, t, none⟩) hbo).trans hu
                have g0 := hcW _ _ c0
                have g1 := hcW _ _ c1
                have g2 := hcW _ _ c2
                have g3 := hcW _ _ c3
                have hz2 := hB2.size
                have hbl : bo < wr.heap.size := by omega
                have hG1 := gm_next kk ms j (by omega)
                have n0 := GN.out j (by omega)
                have n1 := GN.out (j + 1) (by omega)
                have hkk' := hkk.out
                clear hc hcW c0 c1 c2 c3
                generalize ms[j]?.getD noMv = m at *
                have MV := fun (o : Obj) => live_move (hL2.below ((Below.refl wr.heap.size wr).alloc (Nat.le_refl _) o)) m.th m.op m.arg m.data
                have fin : ∀ (o : Obj) (w3 : World), (∃ U'', Lv w3 U'' (w.heap.size + 1) k1 q ((Gm kk ms j).move m.th m.op m.arg m.data).1 ∧ (∀ k, U'' k → V k ∨ (wr.alloc o).heap.size ≤ k) ∧ Fr (wr.alloc o) w3 V) → ∃ U'', Lv w3 U'' (w.heap.size + 1) k1 q (Gm kk ms (j + 1)) ∧ Below w.heap.size w w3 := fun o w3 ⟨U'', h1, h2, h3⟩ => by
                  refine ⟨U'', by rw [hG1]; exact h1, (hB2.alloc hB2.size o).trans (h3.below (fun k hk => by have := hL2.u k hk; omega) (by simp; omega))⟩
                replace hL2 := Mr.hid hL2
                replace hB2 := Mr.hid hB2
                replace fin := Mr.hid fin
                replace hml := Mr.hid hml
                by_cases hjf : fs ≤ j
                · have hfull : (Gm kk ms j).move m.th m.op m.arg m.data = (Gm kk ms j, false) := move_full _ _ _ _ _ (by omega)
                  rw [hfull] at MV
                  have hn1 : (((Gm kk ms (j + 1)).n : Nat) : Int) = 65536 := by omega
                  have f1 : decide ((fs : Int) ≤ (j : Int)) = true := by simp; omega
                  have f2 : decide (fs ≤ j) = true := by simp; omega
                  have f3 : decide ((j : Int) < (fs : Int)) = false := by simp; omega
                  have f4 : decide (j < fs) = false := by simp; omega
                  rw [hfull] at fin
                  clear hkk'
                  replace hn1 := Mr.hid hn1
                  replace hG1 := Mr.hid hG1
                  replace n0 := Mr.hid n0
                  replace n1 := Mr.hid n1
                  replace hfull := Mr.hid hfull
                  go_wp2_with (first | (go_at_call 11; refine (MV _).mono ?_; clear MV; rintro e w3 ⟨rfl, hO⟩; obtain ⟨U'', r1, r2⟩ := fin.out _ w3 hO; clear fin hO; have MS := live_moves r1; rw [hn1.out] at MS; replace r1 := Mr.hid r1; replace r2 := Mr.hid r2) | (go_at_call 12; refine MS.mono ?_; rintro e w' ⟨rfl, hw⟩; obtain rfl := hw.symm))
                  go_roundg (gk - 1)
                  case measure => omega
                  case rel => exact ⟨j + 1, U'', by simp, by omega, r1.out, r2.out⟩
                · have hn1 : (((Gm kk ms (j + 1)).n : Nat) : Int) = 65536 - (fs : Int) + (j : Int) + 1 := by omega
                  have f1 : decide ((fs : Int) ≤ (j : Int)) = false := by simp; omega
                  have f2 : decide (fs ≤ j) = false := by simp; omega
                  have f3 : decide ((j : Int) < (fs : Int)) = true := by simp; omega
                  have f4 : decide (j < fs) = true := by simp; omega
                  generalize hdid : ((Gm kk ms j).move m.th m.op m.arg m.data).2 = did at *
                  replace hdid := Mr.hid hdid
                  clear hkk'
                  replace hn1 := Mr.hid hn1
                  replace hG1 := Mr.hid hG1
                  replace n0 := Mr.hid n0
                  replace n1 := Mr.hid n1
                  go_wp2_with (first | (go_at_call 11; refine (MV _).mono ?_; clear MV; rintro e w3 ⟨rfl, hO⟩; obtain ⟨U'', r1, r2⟩ := fin.out _ w3 hO; clear fin hO; have MS := live_moves r1; rw [hn1.out] at MS; replace r1 := Mr.hid r1; replace r2 := Mr.hid r2) | (go_at_call 12; refine MS.mono ?_; rintro e w' ⟨rfl, hw⟩; obtain rfl := hw.symm))
                  go_roundg (gk - 1)
                  case measure => omega
                  case rel => exact ⟨j + 1, U'', by simp, by omega, r1.out, r2.out⟩
              · replace hB2 := Mr.hid hB2
                replace hL2 := Mr.hid hL2
                go_wp2
                go_ret
                exact ⟨rfl, hB2.out⟩
theorem full_law (am : Option Addr) (nm cm : Nat) (ms : List Mv) (u : Int) (w : World) (hm : MvAt w am nm ms) (hnm : nm ≤ cm) {p : Prop} (_ : p) :
    Calls Try.prog 3 #[.slice am nm cm, .int .i64 u] w fun e w' => e = .returned (.bool true) ∧ Below w.heap.size w w' := full_walk w am nm cm ms hm hnm u
end Go.Proofs.Ytiobchadjcekcaa.Ma
