/-
  MemoryLogs: one of its two rounds.
-/
import Derived.Test.YtkfcfhgjhnmjlaaLogsR
import Derived.Deep.RegionHeld3
import Derived.Deep.Cut
import Derived.Deep.DeepCutAuto
import Derived.Deep.CutRange
namespace Go.Proofs.Ytkfcfhgjhnmjlaa.Me
open Go.RowKit Go.Shelf Mr
set_option linter.unusedVariables false
theorem logged_full {W : World} {S : Nat → Prop} {b : Nat} {vw vl va : Value} {ws : List Int} {mv : Int} {lg : List Acc} {ah : List Int} (h : Mem W S b vw vl va ws mv lg ah) (hl : lg.length ≤ 4000000) :
    Calls Try.prog 8 #[.pointer (some ⟨b, 0, none⟩), .int .i64 0, .int .i64 ((lg.length : Int) + 1)] W fun e w' => ∃ vn aq cq, e = .returned (.tuple #[vn, .slice aq lg.length cq, .bool true]) ∧ Has w' (fun k => W.heap.size ≤ k) 41 7 (.slice aq lg.length cq) lg.length (lgc lg) ∧ Below W.heap.size W w' := by
  refine (logged_any h (by omega) 0 ((lg.length : Int) + 1)).mono ?_
  rintro e w' ⟨vn, vq, k, hk, rfl, h1, h2, h3⟩
  have hk' : k = lg.length := by rw [hk]; simp
  subst hk'
  rw [show (0 : Int).toNat = 0 from rfl, ent_all] at h2
  obtain ⟨aq, cq, rfl, _⟩ := h2.form
  exact ⟨vn, aq, cq, rfl, h2, h3⟩
theorem want_new {W w5 : World} {aq : Option Addr} {n0 cq : Nat} {xs : List Value} (hq : Has w5 (fun k => W.drew.heap.size ≤ k) 41 7 (.slice aq n0 cq) n0 xs) (hB : Below W.drew.heap.size W.drew w5) :
    W.heap.size ≤ w5.heap.size ∧ Boxed (w5.alloc (.cells #[.slice aq n0 cq] 35)) w5.heap.size 35 (.slice aq n0 cq) ∧ Has (w5.alloc (.cells #[.slice aq n0 cq] 35)) (fun k => W.heap.size ≤ k) 41 7 (.slice aq n0 cq) n0 xs ∧ Below W.heap.size W (w5.alloc (.cells #[.slice aq n0 cq] 35)) :=
  have hB' : Below W.heap.size W w5 := ⟨hB.os, hB.tape, hB.output, hB.size, hB.block⟩
  ⟨hB.size, Boxed.new _ _ _, hq.alloc _, hB'.alloc hB.size _⟩
theorem want_old {W w5 : World} {aq : Option Addr} {n0 cq : Nat} {xs : List Value} (hq : Has w5 (fun k => (W.alloc (.cells #[.slice none 0 0] 35)).drew.heap.size ≤ k) 41 7 (.slice aq n0 cq) n0 xs) (hB : Below (W.alloc (.cells #[.slice none 0 0] 35)).drew.heap.size (W.alloc (.cells #[.slice none 0 0] 35)).drew w5) :
    W.heap.size ≤ W.heap.size ∧ Boxed (w5.setCell ⟨W.heap.size, 0, none⟩ (.slice aq n0 cq)) W.heap.size 35 (.slice aq n0 cq) ∧ Has (w5.setCell ⟨W.heap.size, 0, none⟩ (.slice aq n0 cq)) (fun k => W.heap.size ≤ k) 41 7 (.slice aq n0 cq) n0 xs ∧ Below W.heap.size W (w5.setCell ⟨W.heap.size, 0, none⟩ (.slice aq n0 cq)) := by
  have hs : (W.alloc (.cells #[.slice none 0 0] 35)).drew.heap.size = W.heap.size + 1 := World.size_alloc _ _
  rw [hs] at hq hB
  have hb : Boxed w5 W.heap.size 35 (.slice none 0 0) := (hB.block _ (Nat.lt_succ_self _)).trans (Boxed.new W _ _)
  have hB0 : Below W.heap.size W (W.alloc (.cells #[.slice none 0 0] 35)).drew := ((Below.refl _ W).alloc (Nat.le_refl _) _).drew
  refine ⟨Nat.le_refl _, hb.set _, (hq.setCell _ _ (fun e => ?_)).mono (fun k hk => by omega), ((hB0.trans (hB.mono (Nat.le_succ _))).setCell (p := ⟨W.heap.size, 0, none⟩) (Nat.le_refl _) _)⟩
  have h1 := (hq.lt _ e).1
  have h2 : W.heap.size + 1 ≤ W.heap.size := h1
  omega
/-- The blocks that there are no more of than the memory's. -/
theorem Mq.elder {W : World} {S : Nat → Prop} {b : Nat} {t : St} (h : Mq W S b t (.slice none 0 0) 0 []) : ∃ vl, W.cell? ⟨b, 2, none⟩ = some vl ∧ Mq W S b t vl t.lg.length (lgc t.lg) := by
  obtain ⟨⟨vw, vl, va, h1, h2⟩, h3, h4⟩ := h
  exact ⟨vl, h1.c2, ⟨vw, vl, va, h1, h1.hl.mono (fun _ _ => trivial), fun a n cap e _ => by obtain ⟨a', c', e', _⟩ := h1.hl.form; rw [e] at e'; cases e'; exact .inl (Nat.le_refl _)⟩, h3, h4⟩
theorem Mq.plain {W : World} {S : Nat → Prop} {b : Nat} {t : St} {v0 : Value} {n0 : Nat} {xs0 : List Value} (h : Mq W S b t v0 n0 xs0) : Mq W S b t (.slice none 0 0) 0 [] :=
  ⟨MemP.zero h.mem.mem, h.lt, h.cells⟩
theorem KeepsOthers.of_below {W W' : World} (h : Below W.heap.size W W') : KeepsOthers W W' := ⟨h.size, fun k o hk _ => (h.block k (Array.getElem?_eq_some_iff.1 hk).1).trans hk⟩
/-- What the range leaves. -/
theorem ranged {w W W6 W' : World} {B1 b Bt Bn Br n0 : Nat} {v2 : Value} {fr : Int} {bk : Bool} {S0 S : Nat → Prop} {t : St} {vl : Value} {xs : List Value} {r : Int} (K6 : Kx w W6 B1 b v2 fr bk S0) (hB6 : Below W.heap.size W W6) (hc : ∀ k o, S0 k → W6.heap[k]? = some o → o.isCells = true) (bt6 : ∃ u, Boxed W6 Bt 3 u) (bn6 : Boxed W6 Bn 3 (.int .i64 (n0 : Int))) (br6 : Boxed W6 Br 3 (.int .i64 r)) (nn : ¬ S0 Bn) (nr : ¬ S0 Br) (e1 : Br ≠ Bt) (e3 : Bn ≠ Bt) (e4 : B1 + 1 + 1 < Bt)
    (m : Mq W' S b t vl n0 xs) (z : ∀ j, S j → S0 j ∨ W6.heap.size ≤ j) (f : Fr W6 W' (fun j => S0 j ∨ j = Bt)) :
    Kx w W' B1 b v2 fr bk S ∧ Boxed W' Bn 3 (.int .i64 (n0 : Int)) ∧ Boxed W' Br 3 (.int .i64 r) ∧ KeepsOthers W W' ∧ ¬ S W'.heap.size := by
  have hs := K6.bel.size
  refine ⟨K6.kept (fun k hk hn hb => f.block k hk (fun h => h.elim hn (fun e => by have := K6.up; omega))) z (K6.bel.trans (f.below (fun k hk => ?_) hs)), (f.block Bn bn6.lt (fun h => h.elim nn e3)).trans bn6, (f.block Br br6.lt (fun h => h.elim nr e1)).trans br6, (KeepsOthers.of_below hB6).trans (Fr.others f ?_), fun h => by have := m.lt _ h; omega⟩
  · rcases hk with hk | rfl
    · have := K6.out k hk; omega
    · have := K6.up; omega
  · rintro k o (hk | rfl) ho
    · exact hc k o hk ho
    · obtain ⟨u, hu⟩ := bt6
      rw [show W6.heap[k]? = _ from hu] at ho; cases ho; rfl
theorem two_boxes (wc : World) (x y : Value) : Below wc.heap.size wc ((wc.alloc (.cells #[x] 3)).alloc (.cells #[y] 3)) ∧ Boxed ((wc.alloc (.cells #[x] 3)).alloc (.cells #[y] 3)) wc.heap.size 3 x ∧ Boxed ((wc.alloc (.cells #[x] 3)).alloc (.cells #[y] 3)) (wc.heap.size + 1) 3 y := by
  refine ⟨((Below.refl _ wc).alloc (Nat.le_refl _) _).alloc (by simp) _, (Boxed.new wc _ _).alloc _, ?_⟩
  have := Boxed.new (wc.alloc (.cells #[x] 3)) 3 y
  rw [World.size_alloc] at this
  exact this
set_option maxHeartbeats 8000000 in
set_option maxRecDepth 100000 in
theorem round_logs {w W : World} {B1 b : Nat} {a2 : Option Addr} {c2 n2 : Nat} {os2 : List O} {fr : Int} {bk : Bool} {S0 : Nat → Prop} (K0 : Kx w W B1 b (.slice a2 n2 c2) fr bk S0) (ho2 : OpsAt w a2 n2 os2) (hr2 : n2 ≤ 1048576) (hfr : (Lit.int .i64 fr).wf = true)
    {ws : List Int} {st0 : St} {n0 : Nat} (hn0 : st0.lg.length = n0) (Q0 : Mq W S0 b st0 (.slice none 0 0) 0 []) (hp : Pl ws st0) (hl : n0 ≤ 4000000)
    {Br r : Nat} (hr : r < 2) (br : Boxed W Br 3 (.int .i64 (r : Int))) (nr : ¬ S0 Br) (e0 : B1 + 1 + 1 < Br)
    {s0 s1 s2 s3 s4 s5 s6 s10 s13 s15 s16 s17 s18 s19 s20 s21 s22 s23 s24 s25 s26 s27 s28 s29 s30 s31 s32 s33 s34 s35 s36 s37 s38 s39 s40 s41 s42 s43 s44 s45 s46 s47 s48 s49 s50 s51 s52 s53 s54 s55 s56 s57 s58 s59 s60 s61 s62 s63 s64 s65 s66 s67 s68 s69 s70 s71 s72 s73 s74 s75 s76 s77 s78 s79 s80 s81 s82 s83 s84 s85 s86 s87 s88 s89 s90 s91 s92 s93 s94 s95 s96 s97 s98 s99 s100 s101 s102 s103 s104 s105 s106 s107 s108 s109 s110 s111 s112 s113 s114 s115 s116 s117 s118 s119 s120 s121 s122 s123 s124 s125 s126 s127 : Value} {ds : List Deferred} {Q : Exit → Act → World → Prop}
    (hQ : ∀ (D Br2 : Nat) (W' : World) (t : St) (S : Nat → Prop) (u15 u16 u17 u18 u19 u20 u21 u22 u23 u24 u25 u26 u27 u28 u29 u30 u31 u32 u33 u34 u35 u36 u37 u38 u39 u40 u41 u42 u43 u44 u45 u46 u47 u48 u49 u50 u51 u52 u53 u54 u55 u56 u57 u58 u59 u60 u61 u62 u63 u64 u65 u66 u67 u68 u69 u70 u71 u72 u73 u74 u75 u76 u77 u78 u79 u80 u81 u82 u83 u84 u85 u86 u87 u88 u89 u90 u91 u92 u93 u94 u95 u96 u97 u98 u99 u100 u101 u102 u103 u104 u105 u106 u107 u108 u109 u110 u111 u112 u113 u114 u115 u116 u117 u118 u119 u120 u121 u122 u123 u124 u125 u126 u127 : Value), Kx w W' B1 b (.slice a2 n2 c2) fr bk S → Mq W' S b t (.slice none 0 0) 0 [] → Pl ws t → t.lg.length ≤ n0 + n0 → Boxed W' Br2 3 (.int .i64 ((r : Int) + 1)) → ¬ S Br2 → B1 + 1 + 1 < Br2 → KeepsOthers W W' → W.heap.size ≤ D → W'.heap[D]? = some (.deferred (some [])) → Q .normal ⟨#[s0, s1, s2, s3, s4, s5, s6, .pointer (some ⟨w.heap.size, 0, none⟩), .pointer (some ⟨w.heap.size + 1, 0, none⟩), .pointer (some ⟨w.heap.size + 1 + 1, 0, none⟩), s10, .pointer (some ⟨B1, 0, none⟩), .func (.func 18) #[] #[.pointer (some ⟨B1 + 1, 0, none⟩), .pointer (some ⟨B1 + 1 + 1, 0, none⟩)], s13, .pointer (some ⟨Br2, 0, none⟩), u15, u16, u17, u18, u19, u20, u21, u22, u23, u24, u25, u26, u27, u28, u29, u30, u31, u32, u33, u34, u35, u36, u37, u38, u39, u40, u41, u42, u43, u44, u45, u46, u47, u48, u49, u50, u51, u52, u53, u54, u55, u56, u57, u58, u59, u60, u61, u62, u63, u64, u65, u66, u67, u68, u69, u70, u71, u72, u73, u74, u75, u76, u77, u78, u79, u80, u81, u82, u83, u84, u85, u86, u87, u88, u89, u90, u91, u92, u93, u94, u95, u96, u97, u98, u99, u100, u101, u102, u103, u104, u105, u106, u107, u108, u109, u110, u111, u112, u113, u114, u115, u116, u117, u118, u119, u120, u121, u122, u123, u124, u125, u126, u127], { target := .collected D, args := #[] } :: ds⟩ W') :
    Code.wp Try.prog codeL Q ⟨#[s0, s1, s2, s3, s4, s5, s6, .pointer (some ⟨w.heap.size, 0, none⟩), .pointer (some ⟨w.heap.size + 1, 0, none⟩), .pointer (some ⟨w.heap.size + 1 + 1, 0, none⟩), s10, .pointer (some ⟨B1, 0, none⟩), .func (.func 18) #[] #[.pointer (some ⟨B1 + 1, 0, none⟩), .pointer (some ⟨B1 + 1 + 1, 0, none⟩)], s13, .pointer (some ⟨Br, 0, none⟩), s15, s16, s17, s18, s19, s20, s21, s22, s23, s24, s25, s26, s27, s28, s29, s30, s31, s32, s33, s34, s35, s36, s37, s38, s39, s40, s41, s42, s43, s44, s45, s46, s47, s48, s49, s50, s51, s52, s53, s54, s55, s56, s57, s58, s59, s60, s61, s62, s63, s64, s65, s66, s67, s68, s69, s70, s71, s72, s73, s74, s75, s76, s77, s78, s79, s80, s81, s82, s83, s84, s85, s86, s87, s88, s89, s90, s91, s92, s93, s94, s95, s96, s97, s98, s99, s100, s101, s102, s103, s104, s105, s106, s107, s108, s109, s110, s111, s112, s113, s114, s115, s116, s117, s118, s119, s120, s121, s122, s123, s124, s125, s126, s127], ds⟩ W := by
  have xm := K0.m.cell
  have xr := br.cell
  have xf := K0.frm.cell
  have up := K0.up
  have lf := K0.lf.lt
  have nK : ∀ k, k ≤ w.heap.size + 1 + 1 + 1 ∨ k = B1 ∨ k = B1 + 1 ∨ k = B1 + 1 + 1 → ¬ S0 k := fun k hk hS => by have := K0.out k hS; omega
  have hrl : decide ((r : Int) < 2) = true := by simp; omega
  have hrl' : decide (r < 2) = true := by simp; omega
  obtain ⟨vw, vl, va, hM, _⟩ := Q0.mem
  have C : ∀ W', Below W.heap.size W W' → Calls Try.prog 9 #[.pointer (some ⟨b, 0, none⟩)] W' fun e w' => e = .returned (.int .i64 (n0 : Int)) ∧ w' = W' := fun W' hB => by rw [← hn0]; exact count_any (hM.below hB)
  have L : ∀ W', Below W.heap.size W W' → Calls Try.prog 8 #[.pointer (some ⟨b, 0, none⟩), .int .i64 0, .int .i64 ((n0 : Int) + 1)] W' fun e w' => ∃ vn aq cq, e = .returned (.tuple #[vn, .slice aq n0 cq, .bool true]) ∧ Has w' (fun k => W'.heap.size ≤ k) 41 7 (.slice aq n0 cq) n0 (lgc st0.lg) ∧ Below W'.heap.size W' w' := fun W' hB => by
    have := logged_full (hM.below hB) (by omega)
    rw [hn0] at this
    exact this
  clear hM
  replace K0 := Mr.hid K0
  replace Q0 := Mr.hid Q0
  replace br := Mr.hid br
  replace hQ := Mr.hid hQ
  replace hn0 := Mr.hid hn0
  replace ho2 := Mr.hid ho2
  replace hp := Mr.hid hp
  unfold codeL
  conv => arg 2; whnf
  go_upto_region 16 with fail
  go_cut [15, 16, 17] from 51 to 59 (fun s15x s16x s17x wx => ∃ Bw aq cq, s16x = .pointer (some ⟨Bw, 0, none⟩) ∧ s17x = .bool true ∧ W.heap.size ≤ Bw ∧ Boxed wx Bw 35 (.slice aq n0 cq) ∧ Has wx (fun k => W.heap.size ≤ k) 41 7 (.slice aq n0 cq) n0 (lgc st0.lg) ∧ Below W.heap.size W wx)
  case first =>
    have hBd := Mr.hid (fun o => (((Below.refl W.heap.size W).drew).alloc (Nat.le_refl _) o : Below W.heap.size W (W.drew.alloc o)))
    have hBe := Mr.hid ((Below.refl W.heap.size W).drew)
    have hKm := Mr.hid (fun (w0 w5 : World) (h0 : Below W.heap.size W w0) (hB : Below w0.heap.size w0 w5) => (K0.out.below (h0.trans (hB.mono h0.size))).m.cell)
    have hBx : ∀ w0 w5 : World, Below w0.heap.size w0 w5 → w0.heap[W.heap.size]? = some (.cells #[.slice none 0 0] 35 (0, 0)) → w5.cell? ⟨W.heap.size, 0, none⟩ = some (.slice none 0 0) ∧ w5.frozen? ⟨W.heap.size, 0, none⟩ = false ∧ W.heap.size < w5.heap.size := fun w0 w5 hB h0 => by
      have hb : w5.heap[W.heap.size]? = some (.cells #[.slice none 0 0] 35 (0, 0)) := (hB.block _ (Array.getElem?_eq_some_iff.1 h0).1).trans h0
      refine ⟨?_, ?_, (Array.getElem?_eq_some_iff.1 hb).1⟩ <;> simp [World.cell?, World.frozen?, hb]
    replace hBx := Mr.hid hBx
    have ne1 : B1 ≠ W.heap.size := by have := K0.out.m.lt; omega
    have ne2 := ne1.symm
    have lt1 : B1 < W.heap.size := K0.out.m.lt
    have hwn : IntKind.i64.wrap ((n0 : Int) + 1) = (n0 : Int) + 1 := i64w _ (by omega) (by omega)
    go_region_held3 (fun w' => w'.cell? ⟨B1, 0, none⟩ = some (.pointer (some ⟨b, 0, none⟩))) (go_keep)
      (first
        | (go_at_call 9; refine (C _ (by first | exact hBe.out | exact hBd.out _)).mono ?_; clear C; rintro e w4 ⟨rfl, hw4⟩; obtain rfl := hw4.symm)
        | (go_at_call 8; (try rw [hwn]); refine (L _ (by first | exact hBe.out | exact hBd.out _)).mono ?_; clear L; rintro e w5 ⟨vn, aq, cq, rfl, hq5, hB5⟩; have km5 := hKm.out _ w5 (by first | exact hBe.out | exact hBd.out _) hB5; have hbx := hBx.out _ w5 hB5; (try replace hbx := hbx (heap_alloc_new W.drew _)); replace hq5 := Mr.hid hq5; replace hB5 := Mr.hid hB5))
    all_goals go_wp2
    all_goals go_meet
    case rel => have X := want_new hq5.out hB5.out; exact ⟨_, _, _, rfl, rfl, X.1, X.2.1, X.2.2.1, X.2.2.2⟩
    case rel => have X := want_old hq5.out hB5.out; exact ⟨_, _, _, rfl, rfl, X.1, X.2.1, X.2.2.1, X.2.2.2⟩
    case rel => have X := want_old hq5.out hB5.out; exact ⟨_, _, _, rfl, rfl, X.1, X.2.1, X.2.2.1, X.2.2.2⟩
  case rest =>
    obtain ⟨Bw, aq, cq, rfl, rfl, hBw, bw, hq, hBW⟩ := hcut
    have K1 := K0.out.below hBW
    have Q1 := Q0.out.below hBW
    have C1 := fun (W' : World) (hB : Below wc.heap.size wc W') => C W' (hBW.trans (hB.mono hBW.size))
    have xm1 := K1.m.cell
    have xf1 := K1.frm.cell
    have xw1 := bw.cell
    have hbwl := bw.lt
    have lf1 := K1.lf.lt
    have lt2 : w.heap.size + 1 < wc.heap.size := K1.frm.lt
    have lt3 : B1 < wc.heap.size := K1.m.lt
    have lt4 : Br < wc.heap.size := Nat.lt_of_lt_of_le br.out.lt hBW.size
    clear C L xm xr xf
    have hB0 := Mr.hid (Below.refl wc.heap.size wc)
    replace K1 := Mr.hid K1
    replace Q1 := Mr.hid Q1
    replace bw := Mr.hid bw
    replace hq := Mr.hid hq
    replace hBW := Mr.hid hBW
    by_cases hf0 : fr < 0
    · have hd0 : (fr < 0) := hf0
      go_wp2_with (go_at_call 9; refine (C1 _ hB0.out).mono ?_; clear C1; rintro e w4 ⟨rfl, hw4⟩; obtain rfl := hw4.symm)
      obtain ⟨hB6, bn6, bt6⟩ := two_boxes wc (.int .i64 (n0 : Int)) (.int .i64 0)
      obtain ⟨W6, hW6⟩ : ∃ W6, ((wc.alloc (.cells #[.int .i64 (n0 : Int)] 3)).alloc (.cells #[.int .i64 0] 3)) = W6 := ⟨_, rfl⟩
      rw [hW6] at hB6 bn6 bt6 ⊢
      have hs6 : W6.heap.size = wc.heap.size + 1 + 1 := by rw [← hW6]; simp
      clear hW6
      have K6 := K1.out.below hB6
      have Q6 := Q1.out.below hB6
      obtain ⟨vl, hc2, Q7⟩ := Q6.elder
      rw [hn0.out] at Q7
      have hB7 : Below W.heap.size W W6 := hBW.out.trans (hB6.mono hBW.out.size)
      have br6 : Boxed W6 Br 3 (.int .i64 (r : Int)) := (hB7.block Br br.out.lt).trans br.out
      have bw6 : Boxed W6 Bw 35 (.slice aq n0 cq) := (hB6.block Bw bw.out.lt).trans bw.out
      have ltS : ∀ k, S0 k → k < W.heap.size := Q0.out.lt
      have hszw := hBW.out.size
      have hq6 : Has W6 (fun k => ¬ S0 k) 41 7 (.slice aq n0 cq) n0 (lgc st0.lg) := (hq.out.below hB6).mono (fun k hk hS => by have := ltS k hS; omega)
      have nw : ¬ S0 Bw := fun h => by have := ltS _ h; omega
      have nn : ¬ S0 wc.heap.size := fun h => by have := ltS _ h; omega
      have nt : ¬ S0 (wc.heap.size + 1) := fun h => by have := ltS _ h; omega
      have hfN : (fr.toNat : Int) = 0 := by omega
      have bt7 : Boxed W6 (wc.heap.size + 1) 3 (.int .i64 (fr.toNat : Int)) := by rw [hfN]; exact bt6
      refine range_logs K6 ho2.out hr2 hn0.out rfl Q7 hc2 hp.out hl hr br6 bw6 bn6 bt7 hq6 nr nw nn nt (by omega) (by omega) (by omega) (by omega) (fun D W' t S m z p l bt f hD hd => ?_)
      obtain ⟨K8, bn8, br8, o8, nS8⟩ := ranged K6 hB7 Q6.cells ⟨_, bt6⟩ bn6 br6 nn nr (by omega) (by omega) (by omega) m z f
      have hA : ((fr.toNat + (n0 - fr.toNat) : Nat) : Int) = (n0 : Int) := by omega
      rw [hA] at bt
      have xt8 := bt.cell
      have xn8 := bn8.cell
      have xr8 := br8.cell
      have xf8 := K8.frm.cell
      have s8 := f.size
      have l8 : t.lg.length ≤ n0 + n0 := by omega
      have lt8 : Br < W'.heap.size := br8.lt
      have K9 : ∀ o, Kx w (W'.alloc o) B1 b (.slice a2 n2 c2) fr bk S := fun o => K8.below ((Below.refl _ _).alloc (Nat.le_refl _) _)
      have Q9 : ∀ o, Mq (W'.alloc o) S b t (.slice none 0 0) 0 [] := fun o => m.plain.below ((Below.refl _ _).alloc (Nat.le_refl _) _)
      have O9 : ∀ o, KeepsOthers W (W'.alloc o) := fun o => o8.trans (KeepsOthers.alloc _ _)
      have D9 : ∀ o, (W'.alloc o).heap[D]? = some (.deferred (some [])) := fun o => (Below.heap_alloc W' o D (Array.getElem?_eq_some_iff.1 hd).1).trans hd
      have hlt9 : B1 + 1 + 1 < W'.heap.size := K8.lf.lt
      have hD9 : W.heap.size ≤ D := by omega
      have nn0 : (0 : Int) ≤ (n0 : Int) := by omega
      replace K9 := Mr.hid K9
      replace Q9 := Mr.hid Q9
      replace O9 := Mr.hid O9
      replace D9 := Mr.hid D9
      clear K8 bn8 br8 o8 m z bt f hd K6 Q6 Q7 hB7 br6 bw6 bn6 bt6 bt7 hq6 hA hfN hB6 hc2 ltS nK xm1 xf1 xw1
      replace nS8 := Mr.hid nS8
      replace p := Mr.hid p
      go_wp2
      exact hQ.out D W'.heap.size _ t S _ _ _ _ _ _ _ _ _ _ _ _ _ _ _ _ _ _ _ _ _ _ _ _ _ _ _ _ _ _ _ _ _ _ _ _ _ _ _ _ _ _ _ _ _ _ _ _ _ _ _ _ _ _ _ _ _ _ _ _ _ _ _ _ _ _ _ _ _ _ _ _ _ _ _ _ _ _ _ _ _ _ _ _ _ _ _ _ _ _ _ _ _ _ _ _ _ _ _ _ _ _ _ _ _ _ _ _ _ _ _ _ _ (K9.out _) (Q9.out _) p.out l8 (Boxed.new _ _ _) nS8.out hlt9 (O9.out _) hD9 (D9.out _)
    · have hfa : (0 : Int) ≤ fr := by omega
      by_cases hf1 : fr ≤ (n0 : Int)
      · have hfb := hf1
        go_wp2_with (go_at_call 9; refine (C1 _ hB0.out).mono ?_; clear C1; rintro e w4 ⟨rfl, hw4⟩; obtain rfl := hw4.symm)
        obtain ⟨hB6, bn6, bt6⟩ := two_boxes wc (.int .i64 (n0 : Int)) (.int .i64 fr)
        obtain ⟨W6, hW6⟩ : ∃ W6, ((wc.alloc (.cells #[.int .i64 (n0 : Int)] 3)).alloc (.cells #[.int .i64 fr] 3)) = W6 := ⟨_, rfl⟩
        rw [hW6] at hB6 bn6 bt6 ⊢
        have hs6 : W6.heap.size = wc.heap.size + 1 + 1 := by rw [← hW6]; simp
        clear hW6
        have K6 := K1.out.below hB6
        have Q6 := Q1.out.below hB6
        obtain ⟨vl, hc2, Q7⟩ := Q6.elder
        rw [hn0.out] at Q7
        have hB7 : Below W.heap.size W W6 := hBW.out.trans (hB6.mono hBW.out.size)
        have br6 : Boxed W6 Br 3 (.int .i64 (r : Int)) := (hB7.block Br br.out.lt).trans br.out
        have bw6 : Boxed W6 Bw 35 (.slice aq n0 cq) := (hB6.block Bw bw.out.lt).trans bw.out
        have ltS : ∀ k, S0 k → k < W.heap.size := Q0.out.lt
        have hszw := hBW.out.size
        have hq6 : Has W6 (fun k => ¬ S0 k) 41 7 (.slice aq n0 cq) n0 (lgc st0.lg) := (hq.out.below hB6).mono (fun k hk hS => by have := ltS k hS; omega)
        have nw : ¬ S0 Bw := fun h => by have := ltS _ h; omega
        have nn : ¬ S0 wc.heap.size := fun h => by have := ltS _ h; omega
        have nt : ¬ S0 (wc.heap.size + 1) := fun h => by have := ltS _ h; omega
        have hfN : (fr.toNat : Int) = fr := by omega
        have bt7 : Boxed W6 (wc.heap.size + 1) 3 (.int .i64 (fr.toNat : Int)) := by rw [hfN]; exact bt6
        refine range_logs K6 ho2.out hr2 hn0.out rfl Q7 hc2 hp.out hl hr br6 bw6 bn6 bt7 hq6 nr nw nn nt (by omega) (by omega) (by omega) (by omega) (fun D W' t S m z p l bt f hD hd => ?_)
        obtain ⟨K8, bn8, br8, o8, nS8⟩ := ranged K6 hB7 Q6.cells ⟨_, bt6⟩ bn6 br6 nn nr (by omega) (by omega) (by omega) m z f
        have hA : ((fr.toNat + (n0 - fr.toNat) : Nat) : Int) = (n0 : Int) := by omega
        rw [hA] at bt
        have xt8 := bt.cell
        have xn8 := bn8.cell
        have xr8 := br8.cell
        have xf8 := K8.frm.cell
        have s8 := f.size
        have l8 : t.lg.length ≤ n0 + n0 := by omega
        have lt8 : Br < W'.heap.size := br8.lt
        have K9 : ∀ o, Kx w (W'.alloc o) B1 b (.slice a2 n2 c2) fr bk S := fun o => K8.below ((Below.refl _ _).alloc (Nat.le_refl _) _)
        have Q9 : ∀ o, Mq (W'.alloc o) S b t (.slice none 0 0) 0 [] := fun o => m.plain.below ((Below.refl _ _).alloc (Nat.le_refl _) _)
        have O9 : ∀ o, KeepsOthers W (W'.alloc o) := fun o => o8.trans (KeepsOthers.alloc _ _)
        have D9 : ∀ o, (W'.alloc o).heap[D]? = some (.deferred (some [])) := fun o => (Below.heap_alloc W' o D (Array.getElem?_eq_some_iff.1 hd).1).trans hd
        have hlt9 : B1 + 1 + 1 < W'.heap.size := K8.lf.lt
        have hD9 : W.heap.size ≤ D := by omega
        have nn0 : (0 : Int) ≤ (n0 : Int) := by omega
        replace K9 := Mr.hid K9
        replace Q9 := Mr.hid Q9
        replace O9 := Mr.hid O9
        replace D9 := Mr.hid D9
        clear K8 bn8 br8 o8 m z bt f hd K6 Q6 Q7 hB7 br6 bw6 bn6 bt6 bt7 hq6 hA hfN hB6 hc2 ltS nK xm1 xf1 xw1
        replace nS8 := Mr.hid nS8
        replace p := Mr.hid p
        go_wp2
        exact hQ.out D W'.heap.size _ t S _ _ _ _ _ _ _ _ _ _ _ _ _ _ _ _ _ _ _ _ _ _ _ _ _ _ _ _ _ _ _ _ _ _ _ _ _ _ _ _ _ _ _ _ _ _ _ _ _ _ _ _ _ _ _ _ _ _ _ _ _ _ _ _ _ _ _ _ _ _ _ _ _ _ _ _ _ _ _ _ _ _ _ _ _ _ _ _ _ _ _ _ _ _ _ _ _ _ _ _ _ _ _ _ _ _ _ _ _ _ _ _ _ (K9.out _) (Q9.out _) p.out l8 (Boxed.new _ _ _) nS8.out hlt9 (O9.out _) hD9 (D9.out _)
      · have hfb : (n0 : Int) < fr := by omega
        go_wp2_with (go_at_call 9; refine (C1 _ hB0.out).mono ?_; clear C1; rintro e w4 ⟨rfl, hw4⟩; obtain rfl := hw4.symm)
        obtain ⟨hB6, bn6, bt6⟩ := two_boxes wc (.int .i64 (n0 : Int)) (.int .i64 fr)
        obtain ⟨W6, hW6⟩ : ∃ W6, ((wc.alloc (.cells #[.int .i64 (n0 : Int)] 3)).alloc (.cells #[.int .i64 fr] 3)) = W6 := ⟨_, rfl⟩
        rw [hW6] at hB6 bn6 bt6 ⊢
        have hs6 : W6.heap.size = wc.heap.size + 1 + 1 := by rw [← hW6]; simp
        clear hW6
        have K6 := K1.out.below hB6
        have Q6 := Q1.out.below hB6
        obtain ⟨vl, hc2, Q7⟩ := Q6.elder
        rw [hn0.out] at Q7
        have hB7 : Below W.heap.size W W6 := hBW.out.trans (hB6.mono hBW.out.size)
        have br6 : Boxed W6 Br 3 (.int .i64 (r : Int)) := (hB7.block Br br.out.lt).trans br.out
        have bw6 : Boxed W6 Bw 35 (.slice aq n0 cq) := (hB6.block Bw bw.out.lt).trans bw.out
        have ltS : ∀ k, S0 k → k < W.heap.size := Q0.out.lt
        have hszw := hBW.out.size
        have hq6 : Has W6 (fun k => ¬ S0 k) 41 7 (.slice aq n0 cq) n0 (lgc st0.lg) := (hq.out.below hB6).mono (fun k hk hS => by have := ltS k hS; omega)
        have nw : ¬ S0 Bw := fun h => by have := ltS _ h; omega
        have nn : ¬ S0 wc.heap.size := fun h => by have := ltS _ h; omega
        have nt : ¬ S0 (wc.heap.size + 1) := fun h => by have := ltS _ h; omega
        have hfN : (fr.toNat : Int) = fr := by omega
        have bt7 : Boxed W6 (wc.heap.size + 1) 3 (.int .i64 (fr.toNat : Int)) := by rw [hfN]; exact bt6
        refine range_logs K6 ho2.out hr2 hn0.out rfl Q7 hc2 hp.out hl hr br6 bw6 bn6 bt7 hq6 nr nw nn nt (by omega) (by omega) (by omega) (by omega) (fun D W' t S m z p l bt f hD hd => ?_)
        obtain ⟨K8, bn8, br8, o8, nS8⟩ := ranged K6 hB7 Q6.cells ⟨_, bt6⟩ bn6 br6 nn nr (by omega) (by omega) (by omega) m z f
        have hA : ((fr.toNat + (n0 - fr.toNat) : Nat) : Int) = fr := by omega
        rw [hA] at bt
        have xt8 := bt.cell
        have xn8 := bn8.cell
        have xr8 := br8.cell
        have xf8 := K8.frm.cell
        have s8 := f.size
        have l8 : t.lg.length ≤ n0 + n0 := by omega
        have lt8 : Br < W'.heap.size := br8.lt
        have K9 : ∀ o, Kx w (W'.alloc o) B1 b (.slice a2 n2 c2) fr bk S := fun o => K8.below ((Below.refl _ _).alloc (Nat.le_refl _) _)
        have Q9 : ∀ o, Mq (W'.alloc o) S b t (.slice none 0 0) 0 [] := fun o => m.plain.below ((Below.refl _ _).alloc (Nat.le_refl _) _)
        have O9 : ∀ o, KeepsOthers W (W'.alloc o) := fun o => o8.trans (KeepsOthers.alloc _ _)
        have D9 : ∀ o, (W'.alloc o).heap[D]? = some (.deferred (some [])) := fun o => (Below.heap_alloc W' o D (Array.getElem?_eq_some_iff.1 hd).1).trans hd
        have hlt9 : B1 + 1 + 1 < W'.heap.size := K8.lf.lt
        have hD9 : W.heap.size ≤ D := by omega
        have nn0 : (0 : Int) ≤ (n0 : Int) := by omega
        replace K9 := Mr.hid K9
        replace Q9 := Mr.hid Q9
        replace O9 := Mr.hid O9
        replace D9 := Mr.hid D9
        clear K8 bn8 br8 o8 m z bt f hd K6 Q6 Q7 hB7 br6 bw6 bn6 bt6 bt7 hq6 hA hfN hB6 hc2 ltS nK xm1 xf1 xw1
        replace nS8 := Mr.hid nS8
        replace p := Mr.hid p
        go_wp2
        exact hQ.out D W'.heap.size _ t S _ _ _ _ _ _ _ _ _ _ _ _ _ _ _ _ _ _ _ _ _ _ _ _ _ _ _ _ _ _ _ _ _ _ _ _ _ _ _ _ _ _ _ _ _ _ _ _ _ _ _ _ _ _ _ _ _ _ _ _ _ _ _ _ _ _ _ _ _ _ _ _ _ _ _ _ _ _ _ _ _ _ _ _ _ _ _ _ _ _ _ _ _ _ _ _ _ _ _ _ _ _ _ _ _ _ _ _ _ _ _ _ _ (K9.out _) (Q9.out _) p.out l8 (Boxed.new _ _ _) nS8.out hlt9 (O9.out _) hD9 (D9.out _)
end Go.Proofs.Ytkfcfhgjhnmjlaa.Me
