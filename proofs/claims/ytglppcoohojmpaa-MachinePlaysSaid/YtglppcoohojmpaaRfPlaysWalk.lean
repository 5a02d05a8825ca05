import Derived.Test.YtglppcoohojmpaaJ32
/-
  MachinePlays: the walk.
-/
namespace Go.Proofs.Ytglppcoohojmpaa.Rf
open Go.RowKit Mr Me Ma
set_option maxRecDepth 100000 in
set_option maxHeartbeats 8000000 in
theorem plays_law (th : Int) (a : Option Addr) (n cap : Nat) (ws : List Int) (am : Option Addr) (nm cm : Nat) (ms : List Mv) (w : World) (hs : Src w a n cap ws) (hm : MvAt w am nm ms) (_hn : n ≤ cap) (_hnm : nm ≤ cm) (z1 : n * 8 ≤ 140737488351232) (z2 : nm * 32 ≤ 140737488351232) :
    Calls Try.prog 4 #[.agg #[.int .i64 th, .slice a n cap, .slice am nm cm]] w fun e w' => e = .returned (.bool true) ∧ Below w.heap.size w w' := by
  obtain ⟨cls, lg, wr, code, b1, b2, b3, PM, PR⟩ := both th ws ms
  obtain ⟨i4, t1, t2, t3, t4⟩ := info_parts info_u64'
  have hl := hs.1
  have hlm := hm.1
  have o4 : ∀ u ∈ wrd ws, u.oneCell' = true := by
    intro u hu
    obtain ⟨x, _, rfl⟩ := List.mem_map.1 hu
    rfl
  have e4 : (wrd ws).length = n * 1 := by simp [wrd, hl]
  have K0 : K3 w (w.alloc (.cells #[.int .i64 th, .slice a n cap, .slice am nm cm] 25)) (.int .i64 th) (.slice a n cap) (.slice am nm cm) := ⟨(Below.refl _ _).alloc (Nat.le_refl _) _, heap_alloc_new w _⟩
  have TW := Twin_any (w.alloc (.cells #[.int .i64 th, .slice a n cap, .slice am nm cm] 25)) am nm cm ms (hm.below K0.1) z2
  have SN := fun (W : World) (hK : K3 w W (.int .i64 th) (.slice a n cap) (.slice am nm cm)) => (hs.below hK.1).news
  have hS := fun (W : World) (hK : K3 w W (.int .i64 th) (.slice a n cap) (.slice am nm cm)) => hs.below hK.1
  have hM := fun (W : World) (hK : K3 w W (.int .i64 th) (.slice a n cap) (.slice am nm cm)) => hm.below hK.1
  have ha : a = none → n = 0 := hs.news.1
  replace K0 := Mr.hid K0
  replace TW := Mr.hid TW
  replace SN := Mr.hid SN
  replace hS := Mr.hid hS
  replace hM := Mr.hid hM
  replace PM := Mr.hid PM
  replace PR := Mr.hid PR
  replace o4 := Mr.hid o4
  replace e4 := Mr.hid e4
  replace hl := Mr.hid hl
  replace hlm := Mr.hid hlm
  replace ha := Mr.hid ha
  clear hs hm
  go_enter Try.func4, Try.ntmps4
  go_upto_region 2 with (first
    | (go_at_call 20; refine TW.out.mono ?_; clear TW; rintro e w1 ⟨g, cg, rfl, hA, hB1⟩; have K1 := K0.out.below hB1; obtain ⟨f0, f1, f2, hw1⟩ := K1.cells; replace hA := hA.mono (T := fun _ => True) (fun _ _ => trivial); replace hA := Mr.hid hA; replace K1 := Mr.hid K1; clear hB1 K0)
    | fail)
  have SN1 := Mr.hid (SN.out w1 K1.out).2
  go_upto_region 4 with (first
    | (at_builtin; refine wpList_append_fresh _ rfl (.const (.slice none 0 0)) (.tmp 17) 22 rfl (fun _ => True) 59 i4 _ 1 8 Try.underlying22 t1 t2 t3 t4 rfl rfl a n cap (wrd ws) (by first | rfl | simp [Act.eval, Act.put]) e4.out ha.out SN1.out o4.out (by unfold maxLen; omega) (by omega) trivial ?_; intro v0 w2 hv0 hg0 hk0; have hB2 : Below w1.heap.size w1 w2 := (Below.refl _ _).grown hg0 (Nat.le_refl _) (fun k hk => by cases hk); obtain ⟨p0, q0, rfl, _⟩ := hv0.form; have lawD := Mr.hid (hv0.alloc (.cells #[.int .u64 4711] 59)); have news := Mr.hid (newsAt w2 _ #[.int .u64 4711] 59 w2.heap.size rfl rfl); have FB := Mr.hid (fun (w3 : World) (hg : (w2.alloc (.cells #[.int .u64 4711] 59)).grownBy w3 (Value.slice p0 n q0).ownBlock) => (show Below w1.heap.size w1 w3 from (hB2.alloc hB2.size _).grown hg (by have := hB2.size; simp; omega) (fun k hk => by rw [hk0 k hk]; exact Nat.le_refl _))); have hsz2 := hB2.size; replace hB2 := Mr.hid hB2; clear hg0 hk0 hv0 SN1)
    | (at_builtin; refine wpList_append_has _ rfl (.tmp 19) (.tmp 20) 22 rfl (fun _ => True) 59 i4 _ 1 8 Try.underlying22 t1 t2 t3 t4 rfl (.slice p0 n q0) n (wrd ws) rfl lawD.out ⟨w2.heap.size, 0, none⟩ 1 1 [.int .u64 4711] (by first | rfl | simp [Act.eval, Act.put]) rfl news.out (by simp [Value.oneCell']) (by omega) (by unfold maxLen; omega) (by omega) trivial ?_; intro h ch w3 hw hgr _; have hB3 := FB.out w3 hgr; have KW : Kw w w3 (.int .i64 th) (.slice a n cap) (.slice am nm cm) g nm cg ms h n ch ws := ⟨K1.out.below hB3, hA.out.below hB3, hw⟩; replace KW := Mr.hid KW; clear hB3 hw hgr FB news lawD hA K1 hB2 hsz2 f0 f1 f2)
    | fail)
  obtain ⟨f0, f1, f2, hw3⟩ := KW.out.k.cells
  have hnc : n ≤ ch := by obtain ⟨_, _, e, _, _, hq, _⟩ := KW.out.wd.there (by omega); cases e; omega
  have P4 := Mr.hid (fun (W : World) (hB : Below w3.heap.size w3 W) => PM.out W _ n ch _ nm cg ((KW.out.below hB).wds hl.out) ((KW.out.below hB).mvs hlm.out))
  have hBx := Mr.hid (fun (w0 w5 : World) (hB : Below w0.heap.size w0 w5) (h0 : w0.heap[w3.heap.size]? = some (.cells #[.slice none 0 0, .slice none 0 0, .slice none 0 0, .slice none 0 0] 53 (0, 0))) => (show (w5.cell? ⟨w3.heap.size, 0, none⟩ = some (.slice none 0 0) ∧ w5.cell? ⟨w3.heap.size, 1, none⟩ = some (.slice none 0 0) ∧ w5.cell? ⟨w3.heap.size, 2, none⟩ = some (.slice none 0 0) ∧ w5.cell? ⟨w3.heap.size, 3, none⟩ = some (.slice none 0 0)) ∧ (∀ j, w5.frozen? ⟨w3.heap.size, j, none⟩ = false) ∧ w3.heap.size < w5.heap.size by
    have hb : w5.heap[w3.heap.size]? = some (.cells #[.slice none 0 0, .slice none 0 0, .slice none 0 0, .slice none 0 0] 53 (0, 0)) := (hB.block _ (Array.getElem?_eq_some_iff.1 h0).1).trans h0
    refine ⟨⟨?_, ?_, ?_, ?_⟩, fun j => ?_, (Array.getElem?_eq_some_iff.1 hb).1⟩ <;> simp [World.cell?, World.frozen?, hb]))
  have hBe := Mr.hid (Below.refl w3.heap.size w3).drew
  have hBd := Mr.hid ((Below.refl w3.heap.size w3).alloc (Nat.le_refl _) (.cells #[.slice none 0 0, .slice none 0 0, .slice none 0 0, .slice none 0 0] 53)).drew
  have hKx := Mr.hid (fun (w0 w5 : World) (h0 : Below w3.heap.size w3 w0) (hB : Below w0.heap.size w0 w5) => (KW.out.k.below (h0.trans (hB.mono h0.size))).cells)
  have ne1 : w.heap.size ≠ w3.heap.size := by omega
  have ne2 := ne1.symm
  go_cut [6, 7] (fun s6 s7 wx => ∃ B p1 q1 p2 q2 p4 q4, s6 = .pointer (some ⟨B, 0, none⟩) ∧ s7 = .int .i64 code ∧ Below w3.heap.size w3 wx ∧ Rb wx B (.slice p1 cls.length q1) (.slice p2 lg.length q2) (.slice p4 wr.length q4) cls lg wr)
  case first =>
    go_wp2
    go_region_held3 (fun w' => w'.cell? ⟨w.heap.size, 0, none⟩ = some (.int .i64 th) ∧ w'.cell? ⟨w.heap.size, 1, none⟩ = some (.slice a n cap) ∧ w'.cell? ⟨w.heap.size, 2, none⟩ = some (.slice am nm cm)) (go_keep)
      (first
        | (go_at_call 21; refine (P4.out _ (by first | exact hBe.out | exact hBd.out)).mono ?_; clear P4; rintro e w5 ⟨u1, u2, u4, rfl, hu1, hu2, hu4, hB5⟩; unfold runV; obtain ⟨k0, k1, k2, k3⟩ := hKx.out _ w5 (by first | exact hBe.out | exact hBd.out) hB5; have hbx := hBx.out _ w5 hB5; simp only [drew_heap, alloc_at, true_implies, not_there, false_implies] at hbx; obtain ⟨p5, q5, rfl, _⟩ := hu1.form; obtain ⟨p6, q6, rfl, _⟩ := hu2.form; obtain ⟨p7, q7, rfl, _⟩ := hu4.form; replace hu1 := Mr.hid hu1; replace hu2 := Mr.hid hu2; replace hu4 := Mr.hid hu4; replace hB5 := Mr.hid hB5))
    all_goals go_wp2
    all_goals go_meet
    case rel =>
      have X := rb_more (W := w3) ((Below.refl _ _).drew.trans hB5.out) hu1.out hu2.out hu4.out
      exact ⟨_, _, _, _, _, _, _, rfl, rfl, X.1, X.2⟩
    case rel =>
      have X := rb_open rfl hB5.out hu1.out hu2.out hu4.out
      exact ⟨_, _, _, _, _, _, _, rfl, rfl, X.1, X.2⟩
  case rest =>
    obtain ⟨B, p1, q1, p2, q2, p4, q4, rfl, rfl, hB4, RB⟩ := hcut
    have KC := KW.out.below hB4
    have P5 := Mr.hid (PR.out wc a n cap am nm cm (hS.out wc KC.k) (hM.out wc KC.k))
    clear f0 f1 f2 hw3 hBx hBe hBd hKx ne1 ne2 P4 KW hB4
    obtain ⟨f0, f1, f2, hwc⟩ := KC.k.cells
    replace KC := Mr.hid KC
    replace RB := Mr.hid RB
    go_upto_region 6 with (first
      | (go_at_call 22; refine P5.out.mono ?_; clear P5; rintro e w5 ⟨u1, u2, u4, rfl, hu1, hu2, hu4, hB5⟩; unfold runV; have K5 := KC.out.below hB5; have RB5 := RB.out.below hB5; obtain ⟨p5, q5, rfl, _⟩ := hu1.form; obtain ⟨p6, q6, rfl, _⟩ := hu2.form; obtain ⟨p7, q7, rfl, _⟩ := hu4.form; have X := rb_more (W := w5) (Below.refl _ _) hu1 hu2 hu4; replace K5 := Mr.hid (K5.below X.1); replace RB5 := Mr.hid (RB5.below X.1); replace X := Mr.hid X.2; clear hu1 hu2 hu4 hB5 KC RB f0 f1 f2 hwc)
      | fail)
    generalize w5.alloc (.cells #[.slice p5 cls.length q5, .slice p6 lg.length q6, .slice none 0 0, .slice p7 wr.length q7] 53) = W6 at *
    generalize w5.heap.size = B5 at *
    obtain ⟨f0, f1, f2, hw6⟩ := K5.out.k.cells
    obtain ⟨r0, r1, r2, r3⟩ := RB5.out.cells
    obtain ⟨s0, s1, s2, s3⟩ := X.out.cells
    have SR := sameR RB5.out.h1 X.out.h1 b1 RB5.out.h2 X.out.h2 b2 RB5.out.h4 X.out.h4 b3
    unfold runV at SR
    have SRB := Mr.hid SR
    clear SR
    have cc : (code == code) = true := by simp
    have cd : (code != code) = false := by simp
    go_upto_region 8 with (first
      | (go_at_call 16; refine SRB.out.mono ?_; clear SRB; rintro e w7 ⟨rfl, hB7⟩; have K7 := Mr.hid (K5.out.below hB7); clear hB7 K5 RB5 X f0 f1 f2 r0 r1 r2 r3 s0 s1 s2 s3)
      | fail)
    obtain ⟨f0, f1, f2, hw7⟩ := K7.out.k.cells
    have gl := K7.out.last hl.out
    have KD := K7.out
    have WH := Mr.hid (fun (W : World) (hB : Below w7.heap.size w7 W) => Whole_any (cm := cm) (hM.out W (K7.out.below hB).k) (K7.out.below hB).mv z2)
    have SW := Mr.hid (fun (W : World) (hB : Below w7.heap.size w7 W) => sameWS ((K7.out.below hB).wds hl.out) (hS.out W (K7.out.below hB).k) (by omega))
    have FK := Mr.hid (fun (W : World) (hB : Below w7.heap.size w7 W) => (show W.cell? ⟨w.heap.size, 1, none⟩ = some (.slice a n cap) ∧ W.cell? ⟨w.heap.size, 2, none⟩ = some (.slice am nm cm) ∧ W.cell? ⟨h, n, none⟩ = some (.int .u64 4711) from ⟨(K7.out.below hB).k.cells.2.1, (K7.out.below hB).k.cells.2.2.1, (K7.out.below hB).last hl.out⟩))
    have hBe := Mr.hid (Below.refl w7.heap.size w7).drew
    clear KD
    have i1 : (0 : Int) ≤ (n : Int) := by omega
    have i2 : (n : Int) < ((n + 1 : Nat) : Int) := by omega
    have i3 : (n : Int) < (n : Int) + 1 := by omega
    go_wp2
    go_region_held3 (fun w' => w'.cell? ⟨w.heap.size, 1, none⟩ = some (.slice a n cap) ∧ w'.cell? ⟨w.heap.size, 2, none⟩ = some (.slice am nm cm) ∧ w'.cell? ⟨h, n, none⟩ = some (.int .u64 4711)) (first | exact FK.out _ B9.out | exact FK.out _ B8.out | exact FK.out _ B7.out | exact FK.out _ hBe.out | go_keep)
      (first
        | (go_at_call 23; refine (WH.out _ hBe.out).mono ?_; rintro e w8 ⟨rfl, hB8⟩; have B7 := Mr.hid (hBe.out.trans (hB8.mono hBe.out.size)); clear hB8)
        | (go_at_call 19; refine (SW.out _ B7.out).mono ?_; rintro e w9 ⟨rfl, hB9⟩; have B8 := Mr.hid (B7.out.trans (hB9.mono B7.out.size)); clear hB9)
        | (go_at_call 11; refine (awake_any _).mono ?_; rintro e wa ⟨rfl, hBa⟩; have B9 := Mr.hid (B8.out.trans (hBa.mono B8.out.size)); clear hBa))
    all_goals go_wp2
    all_goals go_ret
    all_goals exact ⟨rfl, K7.out.k.1.trans (B9.out.mono K7.out.k.1.size)⟩
end Go.Proofs.Ytglppcoohojmpaa.Rf
