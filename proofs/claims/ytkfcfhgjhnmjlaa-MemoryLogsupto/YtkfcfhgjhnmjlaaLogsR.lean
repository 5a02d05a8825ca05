/-
  MemoryLogs: the range over the iterator.
-/
import Derived.Test.YtkfcfhgjhnmjlaaLogsK
import Derived.TacticsInMore
namespace Go.Proofs.Ytkfcfhgjhnmjlaa.Me
open Go.RowKit Go.Shelf Mr
attribute [local go_sem] Oper.semAt_some
set_option linter.unusedVariables false

def sq1 : Code → Code
  | .seq a _ => a
  | c => c
def sq2 : Code → Code
  | .seq _ b => b
  | c => c
def inn : Code → Code
  | .block _ c => c
  | .loop c => c
  | c => c
/-- The body of the law's loop of two rounds. -/
noncomputable def codeL : Code := inn (inn (sq2 (sq1 (sq2 (sq2 (sq2 (sq2 (sq2 (sq2 (sq2 (Try.f3.body.getD .skip)))))))))))
/-- The range over the iterator. -/
noncomputable def codeG : Code := inn (sq2 (sq1 (sq2 (sq2 (sq2 (sq2 (inn (sq1 (sq2 codeL)))))))))
/-- What a round of the range keeps. -/
structure Iv (W : World) (S0 : Nat → Prop) (b : Nat) (ws : List Int) (vl : Value) (n0 : Nat) (lg0 : List Acc) (fr : Int) (Bt k : Nat) (W' : World) : Prop where
  st : ∃ (t : St) (S : Nat → Prop), Mq W' S b t vl n0 (lgc lg0) ∧ (∀ j, S j → S0 j ∨ W.heap.size ≤ j) ∧ Pl ws t ∧ t.lg.length ≤ n0 + k ∧ (k < 2 → n0 ≤ t.lg.length)
  bt : Boxed W' Bt 3 (.int .i64 ((fr.toNat + k : Nat) : Int))
  fr : Fr W W' (fun j => S0 j ∨ j = Bt)
  c2 : k = 0 → W'.cell? ⟨b, 2, none⟩ = some vl
theorem Mq.blk {W : World} {S : Nat → Prop} {b : Nat} {t : St} {v0 : Value} {n0 : Nat} {xs0 : List Value} (h : Mq W S b t v0 n0 xs0) : S b ∧ ∃ cs, W.heap[b]? = some (.cells cs 56 (0, 0)) := by
  obtain ⟨⟨vw, vl, va, h1, h2⟩, _, _⟩ := h
  exact ⟨h1.inb, _, h1.blk⟩
theorem Pl.nil (ws : List Int) : Pl ws ⟨ws, [], []⟩ := Pl.zero ws
theorem i64w (x : Int) (h1 : -9223372036854775808 ≤ x) (h2 : x ≤ 9223372036854775807) : IntKind.i64.wrap x = x := by
  simp [IntKind.wrap, IntKind.signed, IntKind.bits]; omega
theorem tmod_nat (i r n : Nat) : ((i : Int) + (r : Int)).tmod (n : Int) = (((i + r) % n : Nat) : Int) := by
  rw [Int.tmod_eq_emod_of_nonneg (by omega)]
  norm_cast
theorem stp_le (o : O) (mv : Int) (t : St) : t.lg.length ≤ (stp o mv t).lg.length ∧ (stp o mv t).lg.length ≤ t.lg.length + 1 := by
  unfold stp
  split
  · simp
  · simp

set_option maxHeartbeats 8000000 in
set_option maxRecDepth 100000 in
theorem range_logs {w W : World} {B1 b : Nat} {a2 : Option Addr} {c2 n2 : Nat} {os2 : List O} {fr : Int} {bk : Bool} {S0 : Nat → Prop} (K0 : Kx w W B1 b (.slice a2 n2 c2) fr bk S0) (ho2 : OpsAt w a2 n2 os2) (hr2 : n2 ≤ 1048576)
    {ws : List Int} {st0 : St} {vl : Value} {lg0 : List Acc} {n0 : Nat} (hn0 : lg0.length = n0) (hlg : st0.lg = lg0) (Q0 : Mq W S0 b st0 vl n0 (lgc lg0)) (hc2 : W.cell? ⟨b, 2, none⟩ = some vl) (hp : Pl ws st0) (hl : n0 ≤ 4000000)
    {Br Bw Bn Bt : Nat} {vq : Value} {r : Nat} (hr : r < 2) (br : Boxed W Br 3 (.int .i64 (r : Int))) (bw : Boxed W Bw 35 vq) (bn : Boxed W Bn 3 (.int .i64 (n0 : Int))) (bt : Boxed W Bt 3 (.int .i64 (fr.toNat : Int)))
    (hq : Has W (fun k => ¬ S0 k) 41 7 vq n0 (lgc lg0)) (nr : ¬ S0 Br) (nw : ¬ S0 Bw) (nn : ¬ S0 Bn) (nt : ¬ S0 Bt) (e1 : Br ≠ Bt) (e2 : Bw ≠ Bt) (e3 : Bn ≠ Bt) (e4 : B1 + 1 + 1 < Bt)
    {s0 s1 s2 s3 s4 s5 s6 s10 s12 s13 s15 s17 s20 s21 s22 s23 s24 s25 s26 s27 s28 s29 s30 s31 s32 s33 s34 s35 s36 s37 s38 s39 s40 s41 s42 s43 s44 s45 s46 s47 s48 s49 s50 s51 s52 s53 s54 s55 s56 s57 s58 s59 s60 s61 s62 s63 s64 s65 s66 s67 s68 s69 s70 s71 s73 s74 s75 s76 s77 s78 s79 s80 s81 s82 s83 s84 s85 s86 s87 s88 s89 s90 s91 s92 s93 s94 s95 s96 s97 s98 s99 s100 s101 s102 s103 s104 s105 s106 s107 s108 s109 s110 s111 s112 s113 s114 s115 s116 s117 s118 s119 s120 s121 s122 s123 s124 s125 s126 s127 : Value} {ds : List Deferred} {Q : Exit → Act → World → Prop}
    (hQ : ∀ (D : Nat) (W' : World) (t : St) (S : Nat → Prop), Mq W' S b t vl n0 (lgc lg0) → (∀ j, S j → S0 j ∨ W.heap.size ≤ j) → Pl ws t → t.lg.length ≤ n0 + (n0 - fr.toNat) → Boxed W' Bt 3 (.int .i64 ((fr.toNat + (n0 - fr.toNat) : Nat) : Int)) → Fr W W' (fun j => S0 j ∨ j = Bt) → W.heap.size ≤ D → W'.heap[D]? = some (.deferred (some [])) → Q .normal ⟨#[s0, s1, s2, s3, s4, s5, s6, .pointer (some ⟨w.heap.size, 0, none⟩), .pointer (some ⟨w.heap.size + 1, 0, none⟩), .pointer (some ⟨w.heap.size + 1 + 1, 0, none⟩), s10, .pointer (some ⟨B1, 0, none⟩), s12, s13, .pointer (some ⟨Br, 0, none⟩), s15, .pointer (some ⟨Bw, 0, none⟩), s17, .pointer (some ⟨Bn, 0, none⟩), .pointer (some ⟨Bt, 0, none⟩), s20, s21, s22, s23, s24, s25, s26, s27, s28, s29, s30, s31, s32, s33, s34, s35, s36, s37, s38, s39, s40, s41, s42, s43, s44, s45, s46, s47, s48, s49, s50, s51, s52, s53, s54, s55, s56, s57, s58, s59, s60, s61, s62, s63, s64, s65, s66, s67, s68, s69, s70, s71, .func (.func 18) #[] #[.pointer (some ⟨B1 + 1, 0, none⟩), .pointer (some ⟨B1 + 1 + 1, 0, none⟩)], s73, s74, s75, s76, s77, s78, s79, s80, s81, s82, s83, s84, s85, s86, s87, s88, s89, s90, s91, s92, s93, s94, s95, s96, s97, s98, s99, s100, s101, s102, s103, s104, s105, s106, s107, s108, s109, s110, s111, s112, s113, s114, s115, s116, s117, s118, s119, s120, s121, s122, s123, s124, s125, s126, s127], { target := .collected D, args := #[] } :: ds⟩ W') :
    Code.wp Try.prog codeG Q ⟨#[s0, s1, s2, s3, s4, s5, s6, .pointer (some ⟨w.heap.size, 0, none⟩), .pointer (some ⟨w.heap.size + 1, 0, none⟩), .pointer (some ⟨w.heap.size + 1 + 1, 0, none⟩), s10, .pointer (some ⟨B1, 0, none⟩), s12, s13, .pointer (some ⟨Br, 0, none⟩), s15, .pointer (some ⟨Bw, 0, none⟩), s17, .pointer (some ⟨Bn, 0, none⟩), .pointer (some ⟨Bt, 0, none⟩), s20, s21, s22, s23, s24, s25, s26, s27, s28, s29, s30, s31, s32, s33, s34, s35, s36, s37, s38, s39, s40, s41, s42, s43, s44, s45, s46, s47, s48, s49, s50, s51, s52, s53, s54, s55, s56, s57, s58, s59, s60, s61, s62, s63, s64, s65, s66, s67, s68, s69, s70, s71, .func (.func 18) #[] #[.pointer (some ⟨B1 + 1, 0, none⟩), .pointer (some ⟨B1 + 1 + 1, 0, none⟩)], s73, s74, s75, s76, s77, s78, s79, s80, s81, s82, s83, s84, s85, s86, s87, s88, s89, s90, s91, s92, s93, s94, s95, s96, s97, s98, s99, s100, s101, s102, s103, s104, s105, s106, s107, s108, s109, s110, s111, s112, s113, s114, s115, s116, s117, s118, s119, s120, s121, s122, s123, s124, s125, s126, s127], ds⟩ W := by
  have hB1 := K0.up
  have hBt := bt.lt
  have nvt : ∀ (X : World) (v : Value) (m : Nat) (xs : List Value) (T : Nat → Prop), Has X T 41 7 v m xs → (∃ u, Boxed X Bt 3 u) → v.ownBlock ≠ some Bt := fun X v m xs T h hb e => by
    obtain ⟨u, hu⟩ := hb
    exact past_ne (w1 := X) h hu (by decide) e
  have sub : ∀ (X : World), Fr W X (fun j => S0 j ∨ j = Bt) → ∀ (B ty : Nat) (v : Value), Boxed W B ty v → ¬ S0 B → B ≠ Bt → Boxed X B ty v := fun X hf B ty v hb h1 h2 => (hf.block B hb.lt (fun h => h.elim h1 h2)).trans hb
  have nK : ∀ k, k ≤ w.heap.size + 1 + 1 + 1 ∨ k = B1 ∨ k = B1 + 1 ∨ k = B1 + 1 + 1 → ¬ S0 k := fun k hk hS => by have := K0.out k hS; omega
  unfold codeG codeL
  conv => arg 2; whnf
  refine (wpIn_wide (n := 5)).1 ?_
  refine range_next (α := Nat × Acc) (gf := 18) (lb := #[.pointer (some ⟨B1 + 1, 0, none⟩), .pointer (some ⟨B1 + 1 + 1, 0, none⟩)]) rfl (by omega) (enters_of Try.func18 (by kernel_rfl) rfl) (encs := fun x : Nat × Acc => #[Value.int .i64 (x.1 : Int), Acc.val x.2]) (ys := ent lg0 fr.toNat (lg0.length - fr.toNat)) (fun _ => rfl)
    (Iv W S0 b ws vl n0 lg0 fr Bt)
    ?abides ?new ?start ?hands (fun x a' W' => ∃ Bx, W.heap.size ≤ Bx ∧ W'.heap[Bx]? = some (.cells #[.int .i64 x.2.mv, .int .i64 x.2.th, .int .i64 x.2.kd, .int .i64 x.2.ad, .int .u64 x.2.old, .int .u64 x.2.new, .int .u64 x.2.saw] 41 (0, 0)) ∧ a' = { tmps := #[s0, s1, s2, s3, s4, s5, s6, .pointer (some ⟨w.heap.size, 0, none⟩), .pointer (some ⟨w.heap.size + 1, 0, none⟩), .pointer (some ⟨w.heap.size + 1 + 1, 0, none⟩), s10, .pointer (some ⟨B1, 0, none⟩), s12, s13, .pointer (some ⟨Br, 0, none⟩), s15, .pointer (some ⟨Bw, 0, none⟩), s17, .pointer (some ⟨Bn, 0, none⟩), .pointer (some ⟨Bt, 0, none⟩), .int .i64 (x.1 : Int), .pointer (some ⟨Bx, 0, none⟩), s22, s23, s24, s25, s26, s27, s28, s29, s30, s31, s32, s33, s34, s35, s36, s37, s38, s39, s40, s41, s42, s43, s44, s45, s46, s47, s48, s49, s50, s51, s52, s53, s54, s55, s56, s57, s58, s59, s60, s61, s62, s63, s64, s65, s66, s67, s68, s69, s70, s71, .func (.func 18) #[] #[.pointer (some ⟨B1 + 1, 0, none⟩), .pointer (some ⟨B1 + 1 + 1, 0, none⟩)], .int .i64 (x.1 : Int), Acc.val x.2, s75, s76, s77, s78, s79, s80, s81, s82, s83, s84, s85, s86, s87, s88, s89, s90, s91, s92, s93, s94, s95, s96, s97, s98, s99, s100, s101, s102, s103, s104, s105, s106, s107, s108, s109, s110, s111, s112, s113, s114, s115, s116, s117, s118, s119, s120, s121, s122, s123, s124, s125, s126, s127], defers := [] }) ?ax ?assign ?body ?done
  case abides =>
    rintro k W' l o o' ⟨⟨t, S, h1, h2, h3, h4, h5⟩, h6, h7, h8⟩ hl ho hoc
    refine ⟨⟨t, S, h1.put ho hoc, h2, h3, h4, h5⟩, (World.putObj_heap_other (by omega)).trans h6, Fr.put h7 _ hl, fun hk => ?_⟩
    obtain ⟨_, cs, hcs⟩ := h1.blk
    rw [← h8 hk]
    exact World.cell?_of_block (World.putObj_heap_other (fun e => by have e' : b = l := e; subst e'; rw [hcs] at ho; cases ho; cases hoc))
  case new =>
    rintro W' o ⟨⟨t, S, h1, h2, h3, h4, h5⟩, h6, h7, h8⟩
    have hB : Below W'.heap.size W' (W'.alloc o) := (Below.refl _ _).alloc (Nat.le_refl _) _
    obtain ⟨_, cs, hcs⟩ := h1.blk
    exact ⟨⟨t, S, h1.below hB, h2, h3, h4, h5⟩, h6.alloc _, h7.alloc _, fun hk => (hB.cell (p := ⟨b, 2, none⟩) (Array.getElem?_eq_some_iff.1 hcs).1).trans (h8 hk)⟩
  case start => exact ⟨⟨st0, S0, Q0, fun _ => .inl, hp, by rw [hlg]; omega, fun _ => by rw [hlg]; omega⟩, bt, Fr.refl _ _, fun _ => hc2⟩
  case hands =>
    refine log_hands 4 _ _ b fr vl lg0 (by omega) (by omega) _ ?_ ?_
    · rintro W' ⟨⟨t, S, h1, h2, h3, h4, h5⟩, h6, h7, h8⟩
      exact ⟨(sub _ h7 _ _ _ K0.lm (nK _ (by omega)) (by omega)).cell, (sub _ h7 _ _ _ K0.lf (nK _ (by omega)) (by omega)).cell, h8 rfl⟩
    · rintro k W' ⟨⟨t, S, h1, h2, h3, h4, h5⟩, h6, h7, h8⟩
      rw [hn0]
      exact h1.mem.past
  case ax =>
    rintro x a' k W' l o o' ⟨Bx, q1, q2, q3⟩ hl ho hoc
    refine ⟨Bx, q1, (World.putObj_heap_other (fun e => ?_)).trans q2, q3⟩
    subst e
    rw [q2] at ho; cases ho; cases hoc
  case assign =>
    rintro l k x Wb K hx ⟨⟨t, S, h1, h2, h3, h4, h5⟩, h6, h7, h8⟩ hK
    have hsz := h7.size
    have hB : ∀ o, Below Wb.heap.size Wb (Wb.alloc o) := fun o => (Below.refl _ _).alloc (Nat.le_refl _) _
    obtain ⟨_, cs, hcs⟩ := h1.blk
    have hI : ∀ o, Iv W S0 b ws vl n0 lg0 fr Bt k (Wb.alloc o) := fun o => ⟨⟨t, S, h1.below (hB o), h2, h3, h4, h5⟩, h6.alloc _, h7.alloc _, fun hk => ((hB o).cell (p := ⟨b, 2, none⟩) (Array.getElem?_eq_some_iff.1 hcs).1).trans (h8 hk)⟩
    clear h1 h2 h3 h4 h5 h6 h7 h8 hcs
    replace hI := Mr.hid hI
    obtain ⟨x1, x2⟩ := x
    simp only [Acc.val]
    gi_wp2
    exact hK _ _ ((KeepsOthers.alloc _ _).from _) (hI.out _) ⟨Wb.heap.size, hsz, heap_alloc_new _ _, rfl⟩
  case body =>
    rintro l k x a' Wb hx ⟨⟨t, S, h1, h2, h3, h4, h5⟩, h6, h7, h8⟩ ⟨Bx, hBx, bX, rfl⟩
    have hk : k < lg0.length - fr.toNat := by
      have := (List.getElem?_eq_some_iff.1 hx).1
      rw [ent_length] at this; exact this
    rw [ent_get _ _ _ _ hk] at hx
    obtain rfl : (fr.toNat + k, lg0[fr.toNat + k]?.getD noAcc) = x := Option.some.inj hx
    clear hx
    obtain ⟨i, hi⟩ : ∃ i, fr.toNat + k = i := ⟨_, rfl⟩
    rw [hi] at bX h6 ⊢
    have hin : i < n0 := by omega
    have hqb : Has Wb (fun k => ¬ S0 k) 41 7 vq n0 (lgc lg0) := hq.kept (fun kk e => h7.block kk (hq.lt kk e).2 (fun h => h.elim (hq.lt kk e).1 (fun e' => nvt _ _ _ _ _ hq ⟨_, bt⟩ (e' ▸ e)))) (fun kk e => (hq.lt kk e).1)
    obtain ⟨gq, cq, rfl, hgS, hgl, hgc, _⟩ := hqb.there (by omega)
    have cs : ∀ t u, t < 7 → (lg0[i]?.getD noAcc).cells[t]? = some u → Wb.cell? ⟨gq, i * 7 + t, none⟩ = some u := fun t u ht hu => hqb.cells (g := gq) rfl _ _ ((lgc_get lg0 _ (by omega) t ht).trans hu)
    generalize hxx : lg0[i]?.getD noAcc = y at *
    obtain ⟨y0, y1, y2, y3, y4, y5, y6⟩ := y
    have d0 := cs 0 _ (by decide) rfl
    have d1 := cs 1 _ (by decide) rfl
    have d2 := cs 2 _ (by decide) rfl
    have d3 := cs 3 _ (by decide) rfl
    have d4 := cs 4 _ (by decide) rfl
    have d5 := cs 5 _ (by decide) rfl
    have d6 := cs 6 _ (by decide) rfl
    simp only [Nat.add_zero] at d0
    simp only [Acc.val] at bX ⊢
    have r0 : Wb.cell? ⟨Bx, 0, none⟩ = some (.int .i64 y0) := by simp [World.cell?, bX]
    have r1 : Wb.cell? ⟨Bx, 1, none⟩ = some (.int .i64 y1) := by simp [World.cell?, bX]
    have r2 : Wb.cell? ⟨Bx, 2, none⟩ = some (.int .i64 y2) := by simp [World.cell?, bX]
    have r3 : Wb.cell? ⟨Bx, 3, none⟩ = some (.int .i64 y3) := by simp [World.cell?, bX]
    have r4 : Wb.cell? ⟨Bx, 4, none⟩ = some (.int .u64 y4) := by simp [World.cell?, bX]
    have r5 : Wb.cell? ⟨Bx, 5, none⟩ = some (.int .u64 y5) := by simp [World.cell?, bX]
    have r6 : Wb.cell? ⟨Bx, 6, none⟩ = some (.int .u64 y6) := by simp [World.cell?, bX]
    clear cs hqb hxx
    have x2 := (sub _ h7 _ _ _ K0.two (nK _ (by omega)) (by omega)).cell
    have xf := (sub _ h7 _ _ _ K0.frm (nK _ (by omega)) (by omega)).cell
    have xb := (sub _ h7 _ _ _ K0.bck (nK _ (by omega)) (by omega)).cell
    have xm := (sub _ h7 _ _ _ K0.m (nK _ (by omega)) (by omega)).cell
    have xr := (sub _ h7 _ _ _ br nr e1).cell
    have xw := (sub _ h7 _ _ _ bw nw e2).cell
    have xn := (sub _ h7 _ _ _ bn nn e3).cell
    have xt := h6.cell
    have ft := h6.frozen
    have hge : decide ((n0 : Int) ≤ (i : Int)) = false := by simp; omega
    have hge' : decide (n0 ≤ i) = false := by simp; omega
    have hii : ((i : Int) == (i : Int)) = true := by simp
    have hiin : ((i : Int) != (i : Int)) = false := by simp
    have hilt : (i : Int) < (n0 : Int) := by omega
    have hi0 : (0 : Int) ≤ (i : Int) := by omega
    replace h1 := Mr.hid h1
    replace h2 := Mr.hid h2
    replace h3 := Mr.hid h3
    replace h4 := Mr.hid h4
    replace h5 := Mr.hid h5
    replace h7 := Mr.hid h7
    replace h8 := Mr.hid h8
    replace hi := Mr.hid hi
    have hKb : Below w.heap.size w Wb := K0.bel.trans (h7.out.below (fun j hj => by rcases hj with hj | rfl; exact Nat.le_of_lt (by have := K0.out j hj; omega); omega) K0.bel.size)
    clear hQ Q0 hc2 hp hq bw bn bt bX hgS hgc nw nn
    replace nr := Mr.hid nr
    replace nvt := Mr.hid nvt
    replace sub := Mr.hid sub
    replace br := Mr.hid br
    replace K0 := Mr.hid K0
    replace hKb := Mr.hid hKb
    gi_wp2
    refine round_quiet ?lets (by kernel_rfl) (by kernel_rfl) (by kernel_rfl) ?_
    case lets =>
      rintro ⟨a, w, hq⟩
      have hq' : Exit.outgrown = Exit.normal := hq.1
      cases hq'
    repeat (go_big_quiet_step (fail))
    refine wpQuiet_nil ?_
    rintro _ ⟨nq, rfl⟩
    have ne1 : w.heap.size ≠ Bt := by omega
    have ne2 : w.heap.size + 1 ≠ Bt := by omega
    have ne3 : w.heap.size + 1 + 1 ≠ Bt := by omega
    have ne4 : B1 ≠ Bt := by omega
    have hwi : (i : Int) + 1 ≤ 4000001 := by omega
    have Fc : ∀ W', W' = (Wb.drewN nq).setCell ⟨Bt, 0, none⟩ (.int .i64 ((i : Int) + 1)) → Mq W' S b t vl n0 (lgc lg0) ∧ Boxed W' Bt 3 (.int .i64 ((i : Int) + 1)) ∧ Fr W W' (fun j => S0 j ∨ j = Bt) ∧ KeepsOthers Wb W' ∧ Below w.heap.size w W' := by
      intro W' e
      subst e
      have hBd : Below Wb.heap.size Wb (Wb.drewN nq) := ⟨rfl, rfl, rfl, Nat.le_refl _, fun _ _ => rfl⟩
      have h1d := h1.out.below hBd
      have nS : ¬ S Bt := fun hS => by rcases h2.out Bt hS with hh | hh; exact nt hh; omega
      have h6d : Boxed (Wb.drewN nq) Bt 3 (.int .i64 (i : Int)) := h6
      have h7d : Fr W (Wb.drewN nq) (fun j => S0 j ∨ j = Bt) := ⟨h7.out.os, h7.out.tape, h7.out.output, h7.out.size, h7.out.block⟩
      exact ⟨h1d.set ⟨Bt, 0, none⟩ _ nS (nvt.out _ _ _ _ _ h1d.mem.past ⟨_, h6d⟩), h6d.set _, h7d.setCell _ _ (.inl (.inr rfl)), (⟨Nat.le_refl _, fun _ _ h _ => h⟩ : KeepsOthers Wb (Wb.drewN nq)).trans (KeepsOthers.setCell _ _ _), (hKb.out.trans (hBd.mono hKb.out.size)).setCell (p := ⟨Bt, 0, none⟩) (by show w.heap.size ≤ Bt; omega) _⟩
    replace Fc := Mr.hid Fc
    by_cases hn2 : 0 < n2
    · have hd1 : decide ((0 : Int) < (n2 : Int)) = true := by simp; omega
      have hd2 : decide (0 < n2) = true := by simp; omega
      obtain ⟨hnl, ho2'⟩ := id ho2
      rcases ho2' with hh | ⟨bo, oo, rfl, hbo, hc⟩
      · rw [hh] at hnl; simp at hnl; omega
      obtain ⟨j, hj⟩ : ∃ j, (i + r) % n2 = j := ⟨_, rfl⟩
      have hjl : j < n2 := by rw [← hj]; exact Nat.mod_lt _ hn2
      have hcj := hc j (by omega)
      clear hc
      have htm : ((i : Int) + (r : Int)).tmod (n2 : Int) = (j : Int) := by rw [← hj]; exact tmod_nat i r n2
      generalize os2[j]?.getD noO = o at hcj
      replace hcj := Mr.hid hcj
      replace htm := Mr.hid htm
      replace hj := Mr.hid hj
      replace hnl := Mr.hid hnl
      replace ho2 := Mr.hid ho2
      gi_wp2
      obtain ⟨c0, c1, c3, c4, c5, c6⟩ := hcj.out
      clear hcj
      obtain ⟨Wc, hWc⟩ : ∃ Wc, (Wb.drewN nq).setCell ⟨Bt, 0, none⟩ (.int .i64 ((i : Int) + 1)) = Wc := ⟨_, rfl⟩
      rw [hWc]
      obtain ⟨mC, btC, fC, oC, bC⟩ := Fc.out Wc hWc.symm
      clear Fc hWc r0 r1 r2 r3 r4 r5 r6 d0 d1 d2 d3 d4 d5 d6 x2 xf xb xm xr xw xn xt ft
      have hcW := fun (W' : World) (hB : Below w.heap.size w W') (q : Nat) (u : Value) (hu : w.cell? ⟨bo, q, none⟩ = some u) => (hB.cell (p := ⟨bo, q, none⟩) hbo).trans hu
      have kks : ∀ (W' : World), Below w.heap.size w W' → Fr W W' (fun j => S0 j ∨ j = Bt) → W'.cell? ⟨B1, 0, none⟩ = some (.pointer (some ⟨b, 0, none⟩)) ∧ W'.cell? ⟨w.heap.size, 0, none⟩ = some (.slice (some ⟨bo, oo, none⟩) n2 c2) ∧ W'.cell? ⟨Br, 0, none⟩ = some (.int .i64 (r : Int)) ∧ W'.cell? ⟨bo, oo + j * 6, none⟩ = some (.int .i64 o.k) ∧ W'.cell? ⟨bo, oo + j * 6 + 1, none⟩ = some (.int .i64 o.th) ∧ W'.cell? ⟨bo, oo + j * 6 + 2, none⟩ = some (.int .i64 o.ad) ∧ W'.cell? ⟨bo, oo + j * 6 + 3, none⟩ = some (.int .i64 o.n) ∧ W'.cell? ⟨bo, oo + j * 6 + 4, none⟩ = some (.int .u64 o.old) ∧ W'.cell? ⟨bo, oo + j * 6 + 5, none⟩ = some (.int .u64 o.w) := fun W' hB hF =>
        ⟨(sub.out _ hF _ _ _ K0.out.m (nK _ (by omega)) (by omega)).cell, (sub.out _ hF _ _ _ K0.out.two (nK _ (by omega)) (by omega)).cell, (sub.out _ hF _ _ _ br.out nr.out e1).cell, hcW W' hB _ _ c0, hcW W' hB _ _ c1, hcW W' hB _ _ c3, hcW W' hB _ _ c4, hcW W' hB _ _ c5, hcW W' hB _ _ c6⟩
      clear hcW c0 c1 c3 c4 c5 c6
      have hroom : Roomy t.lg t.ah := roomy_small h3.out (by have := h4.out; omega)
      have A := (mC.below (W' := Wc.drew) (Below.refl _ _).drew).access hroom o
      have after : ∀ (w5 : World) (S5 : Nat → Prop), Mq w5 S5 b (stp o 0 t) vl n0 (lgc lg0) → Tch Wc.drew w5 S S5 → Boxed w5 Bt 3 (.int .i64 ((i : Int) + 1)) ∧ (∀ j, S5 j → S0 j ∨ W.heap.size ≤ j) ∧ Fr W w5 (fun j => S0 j ∨ j = Bt) ∧ KeepsOthers Wb w5 ∧ Below w.heap.size w w5 := by
        intro w5 S5 m5 t5
        have hsz := fC.size
        have hszd : Wc.drew.heap.size = Wc.heap.size := rfl
        have nS : ¬ S Bt := fun hS => by rcases h2.out Bt hS with hh | hh; exact nt hh; omega
        refine ⟨(t5.fr.block Bt btC.lt nS).trans btC, fun j hj => ?_, fC.drew.trans (t5.fr.mono (fun j hj => ?_)), (oC.trans (KeepsOthers.drew _)).trans (Fr.others t5.fr mC.cells), (bC.trans ((Below.refl _ Wc).drew)).trans (t5.fr.below (fun j hj => ?_) bC.size)⟩
        · rcases t5.new j hj with h | h
          · exact h2.out j h
          · exact .inr (by omega)
        · rcases h2.out j hj with h | h
          · exact .inl (.inl h)
          · exact .inr h
        · rcases h2.out j hj with h | h
          · have := K0.out.out j h; omega
          · have := K0.out.bel.size; omega
      have hr0 : (0 : Int) ≤ (r : Int) := by omega
      have hr3 : (r : Int) ≤ 2 := by omega
      have hwr : IntKind.i64.wrap ((i : Int) + (r : Int)) = (i : Int) + (r : Int) := i64w _ (by omega) (by omega)
      have hz2 : ((n2 : Int) == 0) = false := by simp; omega
      have hz3 : ¬ (n2 : Int) = 0 := by omega
      have hz4 : ¬ n2 = 0 := by omega
      have hj0 : (0 : Int) ≤ (j : Int) := by omega
      have hj1 : (j : Int) < (n2 : Int) := by omega
      obtain ⟨k1, k2, k3, k4, k5, k6, k7, k8, k9⟩ := kks Wc bC fC
      replace mC := Mr.hid mC
      replace btC := Mr.hid btC
      replace fC := Mr.hid fC
      replace oC := Mr.hid oC
      replace bC := Mr.hid bC
      replace after := Mr.hid after
      replace A := Mr.hid A
      replace htm := htm.out
      replace hroom := Mr.hid hroom
      replace kks := Mr.hid kks
      clear hilt hge hge' hii hiin
      refine region_round (S := fun w' => w'.cell? ⟨B1, 0, none⟩ = some (.pointer (some ⟨b, 0, none⟩)) ∧ w'.cell? ⟨w.heap.size, 0, none⟩ = some (.slice (some ⟨bo, oo, none⟩) n2 c2) ∧ w'.cell? ⟨Br, 0, none⟩ = some (.int .i64 (r : Int)) ∧ w'.cell? ⟨bo, oo + j * 6, none⟩ = some (.int .i64 o.k) ∧ w'.cell? ⟨bo, oo + j * 6 + 1, none⟩ = some (.int .i64 o.th) ∧ w'.cell? ⟨bo, oo + j * 6 + 2, none⟩ = some (.int .i64 o.ad) ∧ w'.cell? ⟨bo, oo + j * 6 + 3, none⟩ = some (.int .i64 o.n) ∧ w'.cell? ⟨bo, oo + j * 6 + 4, none⟩ = some (.int .u64 o.old) ∧ w'.cell? ⟨bo, oo + j * 6 + 5, none⟩ = some (.int .u64 o.w)) (by kernel_rfl) ?lets2 (by kernel_rfl) ⟨k1, k2, k3, k4, k5, k6, k7, k8, k9⟩ ?walk
      case lets2 =>
        rintro ⟨a, w, hq⟩
        have hq' : Exit.outgrown = Exit.normal := hq.1
        cases hq'
      case walk =>
        intro hS
        refine wpAnyH_take (i := 0) (v := .pointer (some ⟨b, 0, none⟩)) rfl (by kernel_rfl) (by kernel_rfl) (by kernel_rfl) (fun _ _ _ h => h) (Or.inl ⟨by rfl, fun w' hw => ?y0⟩) hS ?_
        case y0 =>
          obtain ⟨z1, z2, z3, z4, z5, z6, z7, z8, z9⟩ := hw
          clear hS k1 k2 k3 k4 k5 k6 k7 k8 k9
          go_simp
        try simp only [Act.put, List.getElem_toArray, List.getElem_cons_zero, List.setIfInBounds_toArray, List.set_cons_zero, List.set_cons_succ]
        refine wpAnyH_take (i := 1) (v := .slice (some ⟨bo, oo, none⟩) n2 c2) rfl (by kernel_rfl) (by kernel_rfl) (by kernel_rfl) (fun _ _ _ h => h) (Or.inl ⟨by rfl, fun w' hw => ?y1⟩) hS ?_
        case y1 =>
          obtain ⟨z1, z2, z3, z4, z5, z6, z7, z8, z9⟩ := hw
          clear hS k1 k2 k3 k4 k5 k6 k7 k8 k9
          go_simp
        try simp only [Act.put, List.getElem_toArray, List.getElem_cons_zero, List.getElem_cons_succ, List.setIfInBounds_toArray, List.set_cons_zero, List.set_cons_succ]
        refine wpAnyH_take (i := 2) (v := .int .i64 (i : Int)) rfl (by kernel_rfl) (by kernel_rfl) (by kernel_rfl) (fun _ _ _ h => h) (Or.inl ⟨by rfl, fun w' hw => ?y2⟩) hS ?_
        case y2 =>
          obtain ⟨z1, z2, z3, z4, z5, z6, z7, z8, z9⟩ := hw
          clear hS k1 k2 k3 k4 k5 k6 k7 k8 k9
          go_simp
        try simp only [Act.put, List.getElem_toArray, List.getElem_cons_zero, List.getElem_cons_succ, List.setIfInBounds_toArray, List.set_cons_zero, List.set_cons_succ]
        refine wpAnyH_take (i := 3) (v := .int .i64 (r : Int)) rfl (by kernel_rfl) (by kernel_rfl) (by kernel_rfl) (fun _ _ _ h => h) (Or.inl ⟨by rfl, fun w' hw => ?y3⟩) hS ?_
        case y3 =>
          obtain ⟨z1, z2, z3, z4, z5, z6, z7, z8, z9⟩ := hw
          clear hS k1 k2 k3 k4 k5 k6 k7 k8 k9
          go_simp
        try simp only [Act.put, List.getElem_toArray, List.getElem_cons_zero, List.getElem_cons_succ, List.setIfInBounds_toArray, List.set_cons_zero, List.set_cons_succ]
        refine wpAnyH_take (i := 4) (v := .int .i64 ((i : Int) + (r : Int))) rfl (by kernel_rfl) (by kernel_rfl) (by kernel_rfl) (fun _ _ _ h => h) (Or.inl ⟨by rfl, fun w' hw => ?y4⟩) hS ?_
        case y4 =>
          obtain ⟨z1, z2, z3, z4, z5, z6, z7, z8, z9⟩ := hw
          clear hS k1 k2 k3 k4 k5 k6 k7 k8 k9
          go_simp
        try simp only [Act.put, List.getElem_toArray, List.getElem_cons_zero, List.getElem_cons_succ, List.setIfInBounds_toArray, List.set_cons_zero, List.set_cons_succ]
        refine wpAnyH_take (i := 5) (v := .slice (some ⟨bo, oo, none⟩) n2 c2) rfl (by kernel_rfl) (by kernel_rfl) (by kernel_rfl) (fun _ _ _ h => h) (Or.inl ⟨by rfl, fun w' hw => ?y5⟩) hS ?_
        case y5 =>
          obtain ⟨z1, z2, z3, z4, z5, z6, z7, z8, z9⟩ := hw
          clear hS k1 k2 k3 k4 k5 k6 k7 k8 k9
          go_simp
        try simp only [Act.put, List.getElem_toArray, List.getElem_cons_zero, List.getElem_cons_succ, List.setIfInBounds_toArray, List.set_cons_zero, List.set_cons_succ]
        refine wpAnyH_take (i := 6) (v := .int .i64 (n2 : Int)) rfl (by kernel_rfl) (by kernel_rfl) (by kernel_rfl) (fun _ _ _ h => h) (Or.inl ⟨by rfl, fun w' hw => ?y6⟩) hS ?_
        case y6 =>
          obtain ⟨z1, z2, z3, z4, z5, z6, z7, z8, z9⟩ := hw
          clear hS k1 k2 k3 k4 k5 k6 k7 k8 k9
          go_simp
        try simp only [Act.put, List.getElem_toArray, List.getElem_cons_zero, List.getElem_cons_succ, List.setIfInBounds_toArray, List.set_cons_zero, List.set_cons_succ]
        refine wpAnyH_take (i := 7) (v := .int .i64 (j : Int)) rfl (by kernel_rfl) (by kernel_rfl) (by kernel_rfl) (fun _ _ _ h => h) (Or.inl ⟨by rfl, fun w' hw => ?y7⟩) hS ?_
        case y7 =>
          obtain ⟨z1, z2, z3, z4, z5, z6, z7, z8, z9⟩ := hw
          clear hS k1 k2 k3 k4 k5 k6 k7 k8 k9
          go_simp
        try simp only [Act.put, List.getElem_toArray, List.getElem_cons_zero, List.getElem_cons_succ, List.setIfInBounds_toArray, List.set_cons_zero, List.set_cons_succ]
        refine wpAnyH_take (i := 8) (v := .pointer (some ⟨bo, oo + j * 6, none⟩)) rfl (by kernel_rfl) (by kernel_rfl) (by kernel_rfl) (fun _ _ _ h => h) (Or.inl ⟨by rfl, fun w' hw => ?y8⟩) hS ?_
        case y8 =>
          obtain ⟨z1, z2, z3, z4, z5, z6, z7, z8, z9⟩ := hw
          clear hS k1 k2 k3 k4 k5 k6 k7 k8 k9
          go_simp
        try simp only [Act.put, List.getElem_toArray, List.getElem_cons_zero, List.getElem_cons_succ, List.setIfInBounds_toArray, List.set_cons_zero, List.set_cons_succ]
        refine wpAnyH_take (i := 9) (v := .agg #[.int .i64 o.k, .int .i64 o.th, .int .i64 o.ad, .int .i64 o.n, .int .u64 o.old, .int .u64 o.w]) rfl (by kernel_rfl) (by kernel_rfl) (by kernel_rfl) (fun _ _ _ h => h) (Or.inl ⟨by rfl, fun w' hw => ?y9⟩) hS ?_
        case y9 =>
          obtain ⟨z1, z2, z3, z4, z5, z6, z7, z8, z9⟩ := hw
          clear hS k1 k2 k3 k4 k5 k6 k7 k8 k9
          go_simp
        try simp only [Act.put, List.getElem_toArray, List.getElem_cons_zero, List.getElem_cons_succ, List.setIfInBounds_toArray, List.set_cons_zero, List.set_cons_succ]
        refine wpAnyH_ready (rs := [10]) (by kernel_rfl) (by simp) (AllReadyH.cons rfl (fun K hK => ?_) AllReadyH.nil)
        go_simp
        go_at_call 7
        refine A.out.mono ?_
        clear A
        rintro e W5 ⟨rfl, S5, m5, T5⟩
        obtain ⟨bt5, z5, f5, o5, b5⟩ := after.out W5 S5 m5 T5
        clear after T5
        have ks := kks.out W5 b5 f5
        go_wp2_with fail
        refine hK.out _ _ ks (fun _ => wpAnyH_done (by kernel_rfl) ?_ _)
        clear hK K ks kks k1 k2 k3 k4 k5 k6 k7 k8 k9 hS
        obtain ⟨sl1, sl2⟩ := stp_le o 0 t
        have l5 : Hid ((stp o 0 t).lg.length ≤ n0 + (k + 1)) := by have := h4.out; exact Mr.hid (by omega)
        have g5 : Hid (k < 2 → n0 ≤ (stp o 0 t).lg.length) := by have := h5.out; exact Mr.hid (fun h => by have := this h; omega)
        have p5 := Mr.hid (h3.out.stp o 0)
        clear sl1 sl2 hroom
        generalize stp o 0 t = t5 at *
        replace m5 := Mr.hid m5
        replace z5 := Mr.hid z5
        replace f5 := Mr.hid f5
        replace o5 := Mr.hid o5
        replace bt5 := Mr.hid bt5
        clear b5 mC btC fC oC bC
        have xf5 := (sub.out _ f5.out _ _ _ K0.out.frm (nK _ (by omega)) (by omega)).cell
        have xb5 := (sub.out _ f5.out _ _ _ K0.out.bck (nK _ (by omega)) (by omega)).cell
        have xm5 := (sub.out _ f5.out _ _ _ K0.out.m (nK _ (by omega)) (by omega)).cell
        have xt5 := bt5.out.cell
        have fin : KeepsFrom W.heap.size Wb (W5) ∧ Iv W S0 b ws vl n0 lg0 fr Bt (k + 1) (W5)  := ⟨o5.out.from _, ⟨t5, S5, m5.out, z5.out, p5.out, l5.out, fun h => g5.out (by omega)⟩, (by have := hi.out; rw [show ((fr.toNat + (k + 1) : Nat) : Int) = (i : Int) + 1 by omega]; exact bt5.out), f5.out, fun h => by omega⟩
        replace fin := Mr.hid fin
        have V : k + 1 = 2 → Calls Try.prog 11 #[.pointer (some ⟨b, 0, none⟩), .int .i64 0] (W5) fun e w' => e = .returned (.int .i64 0) ∧ KeepsFrom W.heap.size Wb w' ∧ Iv W S0 b ws vl n0 lg0 fr Bt (k + 1) w'  := fun h2k => by
          refine (m5.out.back p5.out (by have := g5.out (by omega); omega) (by have := l5.out; omega)).mono ?_
          rintro e w' ⟨rfl, S6, m6, t6⟩
          have nS : ¬ S5 Bt := fun hS => by rcases z5.out Bt hS with hh | hh; exact nt hh; omega
          have hsz := f5.out.size
          refine ⟨rfl, (o5.out.trans (Fr.others t6.fr m5.out.cells)).from _, ⟨⟨ws, [], []⟩, S6, m6, fun j hj => ?_, Pl.nil ws, by simp, fun h => by omega⟩, ?_, f5.out.trans (t6.fr.mono (fun j hj => ?_)), fun h => by omega⟩
          · rcases t6.new j hj with h | h
            · exact z5.out j h
            · exact .inr (by omega)
          · have hb := bt5.out
            have hh := hi.out
            rw [show ((fr.toNat + (k + 1) : Nat) : Int) = (i : Int) + 1 by omega]
            exact (t6.fr.block Bt hb.lt nS).trans hb
          · rcases z5.out j hj with h | h
            · exact .inl (.inl h)
            · exact .inr h
        replace V := Mr.hid V
        cases bk with
        | false =>
          gi_wp2
          refine ⟨trivial, ?_⟩
          gi_wp2
          refine ⟨trivial, ?_⟩
          gi_wp2
          exact fin.out
        | true =>
          have hih := hi.out
          by_cases hf0 : fr < 0
          · have hx0 : fr.toNat = 0 := by omega
            by_cases hk2 : k + 1 = 2
            · have b1 : ((i : Int) + 1 == 2) = true := by simp; omega
              replace hx0 := Mr.hid hx0
              replace hih := Mr.hid hih
              obtain V2 := V.out hk2
              replace hk2 := Mr.hid hk2
              gi_wp2_with (first | (refine ⟨trivial, ?_⟩; gi_at_call 11; refine (CallsIn.inRound l (callsIn_wide.2 V2)).mono ?_; clear V2; rintro e w6 ⟨rfl, fin6⟩; replace fin6 := Mr.hid fin6) | (refine ⟨trivial, ?_⟩; gi_at_call 10; refine (CallsIn.inRound l (callsIn_wide.2 (num_any _ _))).mono ?_; rintro e w7 ⟨rfl, hw7⟩; obtain rfl := hw7.symm))
              exact fin6.out
            · have b1 : ((i : Int) + 1 == 2) = false := by simp; omega
              replace hx0 := Mr.hid hx0
              replace hih := Mr.hid hih
              gi_wp2
              refine ⟨trivial, ?_⟩
              gi_wp2
              refine ⟨trivial, ?_⟩
              gi_wp2
              exact fin.out
          · have hx0 : (fr.toNat : Int) = fr := by omega
            by_cases hk2 : k + 1 = 2
            · have b1 : ((i : Int) + 1 == fr + 2) = true := by simp; omega
              have hfb : fr ≤ 4000000 := by omega
              have hfa : (0 : Int) ≤ fr := by omega
              replace hx0 := Mr.hid hx0
              replace hih := Mr.hid hih
              obtain V2 := V.out hk2
              replace hk2 := Mr.hid hk2
              gi_wp2_with (first | (refine ⟨trivial, ?_⟩; gi_at_call 11; refine (CallsIn.inRound l (callsIn_wide.2 V2)).mono ?_; clear V2; rintro e w6 ⟨rfl, fin6⟩; replace fin6 := Mr.hid fin6) | (refine ⟨trivial, ?_⟩; gi_at_call 10; refine (CallsIn.inRound l (callsIn_wide.2 (num_any _ _))).mono ?_; rintro e w7 ⟨rfl, hw7⟩; obtain rfl := hw7.symm))
              exact fin6.out
            · have b1 : ((i : Int) + 1 == fr + 2) = false := by simp; omega
              have hfb : fr ≤ 4000000 := by omega
              have hfa : (0 : Int) ≤ fr := by omega
              replace hx0 := Mr.hid hx0
              replace hih := Mr.hid hih
              gi_wp2
              refine ⟨trivial, ?_⟩
              gi_wp2
              refine ⟨trivial, ?_⟩
              gi_wp2
              exact fin.out
    · have hd1 : decide ((0 : Int) < (n2 : Int)) = false := by simp; omega
      have hd2 : decide (0 < n2) = false := by simp; omega
      obtain ⟨m5, bt5, f5, o5, _⟩ := Fc.out _ rfl
      have z5 := h2
      have p5 := h3
      have l5 : Hid (t.lg.length ≤ n0 + (k + 1)) := by have := h4.out; exact Mr.hid (by omega)
      have g5 := h5
      replace m5 := Mr.hid m5
      replace f5 := Mr.hid f5
      replace o5 := Mr.hid o5
      replace bt5 := Mr.hid bt5
      clear Fc r0 r1 r2 r3 r4 r5 r6 d0 d1 d2 d3 d4 d5 d6 xr xw xn
      have fin : KeepsFrom W.heap.size Wb ((Wb.drewN nq).setCell ⟨Bt, 0, none⟩ (.int .i64 ((i : Int) + 1))) ∧ Iv W S0 b ws vl n0 lg0 fr Bt (k + 1) ((Wb.drewN nq).setCell ⟨Bt, 0, none⟩ (.int .i64 ((i : Int) + 1)))  := ⟨o5.out.from _, ⟨t, S, m5.out, z5.out, p5.out, l5.out, fun h => g5.out (by omega)⟩, (by have := hi.out; rw [show ((fr.toNat + (k + 1) : Nat) : Int) = (i : Int) + 1 by omega]; exact bt5.out), f5.out, fun h => by omega⟩
      replace fin := Mr.hid fin
      have V : k + 1 = 2 → Calls Try.prog 11 #[.pointer (some ⟨b, 0, none⟩), .int .i64 0] ((Wb.drewN nq).setCell ⟨Bt, 0, none⟩ (.int .i64 ((i : Int) + 1))) fun e w' => e = .returned (.int .i64 0) ∧ KeepsFrom W.heap.size Wb w' ∧ Iv W S0 b ws vl n0 lg0 fr Bt (k + 1) w'  := fun h2k => by
        refine (m5.out.back p5.out (by have := g5.out (by omega); omega) (by have := l5.out; omega)).mono ?_
        rintro e w' ⟨rfl, S6, m6, t6⟩
        have nS : ¬ S Bt := fun hS => by rcases z5.out Bt hS with hh | hh; exact nt hh; omega
        have hsz := f5.out.size
        refine ⟨rfl, (o5.out.trans (Fr.others t6.fr m5.out.cells)).from _, ⟨⟨ws, [], []⟩, S6, m6, fun j hj => ?_, Pl.nil ws, by simp, fun h => by omega⟩, ?_, f5.out.trans (t6.fr.mono (fun j hj => ?_)), fun h => by omega⟩
        · rcases t6.new j hj with h | h
          · exact z5.out j h
          · exact .inr (by omega)
        · have hb := bt5.out
          have hh := hi.out
          rw [show ((fr.toNat + (k + 1) : Nat) : Int) = (i : Int) + 1 by omega]
          exact (t6.fr.block Bt hb.lt nS).trans hb
        · rcases z5.out j hj with h | h
          · exact .inl (.inl h)
          · exact .inr h
      replace V := Mr.hid V
      cases bk with
      | false =>
        gi_wp2
        refine ⟨trivial, ?_⟩
        gi_wp2
        refine ⟨trivial, ?_⟩
        gi_wp2
        exact fin.out
      | true =>
        have hih := hi.out
        by_cases hf0 : fr < 0
        · have hx0 : fr.toNat = 0 := by omega
          by_cases hk2 : k + 1 = 2
          · have b1 : ((i : Int) + 1 == 2) = true := by simp; omega
            replace hx0 := Mr.hid hx0
            replace hih := Mr.hid hih
            obtain V2 := V.out hk2
            replace hk2 := Mr.hid hk2
            gi_wp2_with (first | (refine ⟨trivial, ?_⟩; gi_at_call 11; refine (CallsIn.inRound l (callsIn_wide.2 V2)).mono ?_; clear V2; rintro e w6 ⟨rfl, fin6⟩; replace fin6 := Mr.hid fin6) | (refine ⟨trivial, ?_⟩; gi_at_call 10; refine (CallsIn.inRound l (callsIn_wide.2 (num_any _ _))).mono ?_; rintro e w7 ⟨rfl, hw7⟩; obtain rfl := hw7.symm))
            exact fin6.out
          · have b1 : ((i : Int) + 1 == 2) = false := by simp; omega
            replace hx0 := Mr.hid hx0
            replace hih := Mr.hid hih
            gi_wp2
            refine ⟨trivial, ?_⟩
            gi_wp2
            refine ⟨trivial, ?_⟩
            gi_wp2
            exact fin.out
        · have hx0 : (fr.toNat : Int) = fr := by omega
          by_cases hk2 : k + 1 = 2
          · have b1 : ((i : Int) + 1 == fr + 2) = true := by simp; omega
            have hfb : fr ≤ 4000000 := by omega
            have hfa : (0 : Int) ≤ fr := by omega
            replace hx0 := Mr.hid hx0
            replace hih := Mr.hid hih
            obtain V2 := V.out hk2
            replace hk2 := Mr.hid hk2
            gi_wp2_with (first | (refine ⟨trivial, ?_⟩; gi_at_call 11; refine (CallsIn.inRound l (callsIn_wide.2 V2)).mono ?_; clear V2; rintro e w6 ⟨rfl, fin6⟩; replace fin6 := Mr.hid fin6) | (refine ⟨trivial, ?_⟩; gi_at_call 10; refine (CallsIn.inRound l (callsIn_wide.2 (num_any _ _))).mono ?_; rintro e w7 ⟨rfl, hw7⟩; obtain rfl := hw7.symm))
            exact fin6.out
          · have b1 : ((i : Int) + 1 == fr + 2) = false := by simp; omega
            have hfb : fr ≤ 4000000 := by omega
            have hfa : (0 : Int) ≤ fr := by omega
            replace hx0 := Mr.hid hx0
            replace hih := Mr.hid hih
            gi_wp2
            refine ⟨trivial, ?_⟩
            gi_wp2
            refine ⟨trivial, ?_⟩
            gi_wp2
            exact fin.out
  case done =>
    rintro D Wd hD ⟨⟨t, S, h1, h2, h3, h4, h5⟩, h6, h7, h8⟩ hK
    rw [ent_length, hn0] at h4 h6
    exact hQ D Wd t S h1 h2 h3 h4 h6 h7 hD hK
end Go.Proofs.Ytkfcfhgjhnmjlaa.Me
