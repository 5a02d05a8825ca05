/-
  access, writes, sameWords, awake, made by their contracts.
-/
import Derived.Test.YtkfcfhgjhnmjlaaMemAcc
import Derived.Test.YtkfcfhgjhnmjlaaMemLogged
import Derived.Deep.LoopGhost
import Derived.Deep.DeepCutAuto
namespace Go.Proofs.Ytkfcfhgjhnmjlaa.Me
open Go.RowKit Mr

/-- A call of a script. -/
structure O where
  k : Int
  th : Int
  ad : Int
  n : Int
  old : Int
  w : Int
def O.val (o : O) : Value := .agg #[.int .i64 o.k, .int .i64 o.th, .int .i64 o.ad, .int .i64 o.n, .int .u64 o.old, .int .u64 o.w]
structure St where
  ws : List Int
  lg : List Acc
  ah : List Int
def mkA (o : O) (mv : Int) (ws : List Int) : Acc :=
  if o.k.tmod 3 = 0 then ⟨mv, o.th, 1, o.ad, 0, 0, ws[o.ad.toNat]?.getD 0⟩ else if o.k.tmod 3 = 1 ∨ o.k.tmod 3 = -1 then ⟨mv, o.th, 2, o.ad, 0, o.w, 0⟩ else ⟨mv, o.th, 3, o.ad, o.old, o.w, ws[o.ad.toNat]?.getD 0⟩
def wrt (a : Acc) : Bool := (a.kd == 3 && a.saw == a.old) || a.kd == 2
def putA (ws : List Int) (a : Acc) : List Int := if wrt a = true then ws.set a.ad.toNat a.new else ws
def stp (o : O) (mv : Int) (s : St) : St := if 0 ≤ o.ad ∧ o.ad < s.ws.length then ⟨putA s.ws (mkA o mv s.ws), s.lg ++ [mkA o mv s.ws], if wrt (mkA o mv s.ws) = true then s.ah ++ [s.ws[o.ad.toNat]?.getD 0] else s.ah⟩ else s
def MemS (W : World) (S : Nat → Prop) (b : Nat) (s : St) (mv : Int) : Prop := ∃ vw vl va, Mem W S b vw vl va s.ws mv s.lg s.ah
theorem MemS.below {W W' : World} {S : Nat → Prop} {b : Nat} {s : St} {mv : Int} (h : MemS W S b s mv) (hb : Below W.heap.size W W') : MemS W' S b s mv := by
  obtain ⟨vw, vl, va, h⟩ := h; exact ⟨vw, vl, va, h.below hb⟩
theorem MemS.mono {W : World} {S T : Nat → Prop} {b : Nat} {s : St} {mv : Int} (h : MemS W S b s mv) (hT : ∀ k, S k → T k) : MemS W T b s mv := by
  obtain ⟨vw, vl, va, h⟩ := h; exact ⟨vw, vl, va, h.mono hT⟩
theorem MemS.fr {W W' : World} {S T : Nat → Prop} {b : Nat} {s : St} {mv : Int} (h : MemS W S b s mv) (hb : Fr W W' T) (hd : ∀ k, S k → k < W.heap.size → ¬ T k) : MemS W' S b s mv := by
  obtain ⟨vw, vl, va, h⟩ := h; exact ⟨vw, vl, va, h.fr hb hd⟩

set_option maxRecDepth 100000 in
set_option maxHeartbeats 1000000 in
theorem access_any {W : World} {S : Nat → Prop} {b : Nat} {s : St} {mv : Int} (h : MemS W S b s mv) (hb : Roomy s.lg s.ah) (o : O) :
    Calls Try.prog 7 #[.pointer (some ⟨b, 0, none⟩), .agg #[.int .i64 o.k, .int .i64 o.th, .int .i64 o.ad, .int .i64 o.n, .int .u64 o.old, .int .u64 o.w]] W fun e w' => e = .returned (.tuple #[]) ∧ MemS w' (fun k => S k ∨ W.heap.size ≤ k) b (stp o mv s) mv ∧ Fr W w' S := by
  obtain ⟨vw, vl, va, hm⟩ := h
  have hB : ∀ p, Below W.heap.size W (W.alloc p) := fun p => (Below.refl _ _).alloc (Nat.le_refl _) p
  have hm1 := fun p => hm.below (hB p)
  have hszp : ∀ p, W.heap.size ≤ (W.alloc p).heap.size := fun p => (hB p).size
  have fin : ∀ {p : Obj} {w' : World} {s' : St}, MemS w' (fun k => S k ∨ (W.alloc p).heap.size ≤ k) b s' mv → Fr (W.alloc p) w' S → MemS w' (fun k => S k ∨ W.heap.size ≤ k) b s' mv ∧ Fr W w' S := fun {p w' s'} h1 h2 =>
    ⟨h1.mono (fun k hk => hk.elim .inl (fun hk => .inr (by have := hszp p; omega))), (Fr.of_below (hB p)).trans (h2.mono (fun _ => .inl))⟩
  obtain ⟨k, th, ad, n, old, w⟩ := o
  obtain ⟨ws, lg, ah⟩ := s
  simp only at hb hm hm1 ⊢
  by_cases hin : 0 ≤ ad ∧ ad < ws.length
  · obtain ⟨i, rfl⟩ : ∃ i : Nat, ad = i := ⟨ad.toNat, by omega⟩
    have hi : i < ws.length := by omega
    by_cases h0 : k.tmod 3 = 0
    · have hs : stp ⟨k, th, i, n, old, w⟩ mv ⟨ws, lg, ah⟩ = ⟨ws, lg ++ [⟨mv, th, 1, i, 0, 0, ws[i]?.getD 0⟩], ah⟩ := by simp [stp, hi, mkA, h0, putA, wrt]
      rw [hs]
      have C := fun p => load_ok (hm1 p) hb th i hi
      have hb0 : (k.tmod 3 == 0) = true := by simpa using h0
      clear hm hm1 hs hin h0
      go_enter Try.func7, Try.ntmps7
      go_wp2_with (go_at_call 14; refine (C _).mono ?_; rintro e w' ⟨rfl, ⟨vl', h1⟩, h2⟩)
      go_end0
      obtain ⟨q1, q2⟩ := fin (s' := ⟨_, _, _⟩) ⟨_, _, _, h1⟩ h2
      exact ⟨rfl, q1, q2⟩
    · by_cases h1 : k.tmod 3 = 1 ∨ k.tmod 3 = -1
      · have hs : stp ⟨k, th, i, n, old, w⟩ mv ⟨ws, lg, ah⟩ = ⟨ws.set i w, lg ++ [⟨mv, th, 2, i, 0, w, 0⟩], ah ++ [ws[i]?.getD 0]⟩ := by simp [stp, hi, mkA, h0, h1, putA, wrt]
        rw [hs]
        have C := fun p => store_ok (hm1 p) hb th w i hi
        have hb0 : (k.tmod 3 == 0) = false := by simpa using h0
        clear hm hm1 hs hin
        rcases h1 with h1 | h1
        · have hb1 : (k.tmod 3 == 1) = true := by simpa using h1
          clear h0 h1
          go_enter Try.func7, Try.ntmps7
          go_wp2_with (go_at_call 19; refine (C _).mono ?_; rintro e w' ⟨rfl, ⟨vl', va', h1⟩, h2⟩)
          go_end0
          obtain ⟨q1, q2⟩ := fin (s' := ⟨_, _, _⟩) ⟨_, _, _, h1⟩ h2
          exact ⟨rfl, q1, q2⟩
        · have hb1 : (k.tmod 3 == 1) = false := by simp; omega
          have hb2 : (k.tmod 3 == -1) = true := by simpa using h1
          clear h0 h1
          go_enter Try.func7, Try.ntmps7
          go_wp2_with (go_at_call 19; refine (C _).mono ?_; rintro e w' ⟨rfl, ⟨vl', va', h1⟩, h2⟩)
          go_end0
          obtain ⟨q1, q2⟩ := fin (s' := ⟨_, _, _⟩) ⟨_, _, _, h1⟩ h2
          exact ⟨rfl, q1, q2⟩
      · have hb0 : (k.tmod 3 == 0) = false := by simpa using h0
        have hb1 : (k.tmod 3 == 1) = false := by simp; omega
        have hb2 : (k.tmod 3 == -1) = false := by simp; omega
        by_cases ho : ws[i]?.getD 0 = old
        · have ho' : ws[i] = old := by simpa [hi] using ho
          have hs : stp ⟨k, th, i, n, old, w⟩ mv ⟨ws, lg, ah⟩ = ⟨ws.set i w, lg ++ [⟨mv, th, 3, i, old, w, old⟩], ah ++ [old]⟩ := by simp [stp, hi, mkA, h0, h1, putA, wrt, ho']
          rw [hs]
          have C := fun p => swap_hit (hm1 p) hb th old w i hi ho
          clear hm hm1 hs hin h0 h1 ho ho'
          go_enter Try.func7, Try.ntmps7
          go_wp2_with (go_at_call 15; refine (C _).mono ?_; rintro e w' ⟨rfl, ⟨vl', va', h1⟩, h2⟩)
          go_end0
          obtain ⟨q1, q2⟩ := fin (s' := ⟨_, _, _⟩) ⟨_, _, _, h1⟩ h2
          exact ⟨rfl, q1, q2⟩
        · have ho' : ¬ ws[i] = old := by simpa [hi] using ho
          have hs : stp ⟨k, th, i, n, old, w⟩ mv ⟨ws, lg, ah⟩ = ⟨ws, lg ++ [⟨mv, th, 3, i, old, w, ws[i]?.getD 0⟩], ah⟩ := by simp [stp, hi, mkA, h0, h1, putA, wrt, ho']
          rw [hs]
          have C := fun p => swap_miss (hm1 p) hb th old w i hi ho
          clear hm hm1 hs hin h0 h1 ho ho'
          go_enter Try.func7, Try.ntmps7
          go_wp2_with (go_at_call 15; refine (C _).mono ?_; rintro e w' ⟨rfl, ⟨vl', h1⟩, h2⟩)
          go_end0
          obtain ⟨q1, q2⟩ := fin (s' := ⟨_, _, _⟩) ⟨_, _, _, h1⟩ h2
          exact ⟨rfl, q1, q2⟩
  · have hs : stp ⟨k, th, ad, n, old, w⟩ mv ⟨ws, lg, ah⟩ = ⟨ws, lg, ah⟩ := by simp only [stp, if_neg hin]
    rw [hs]
    have hout : ad < 0 ∨ (ws.length : Int) ≤ ad := by omega
    have C1 := fun p => load_no (hm1 p) th ad hout
    have C2 := fun p => store_no (hm1 p) th ad w hout
    have C3 := fun p => swap_no (hm1 p) th ad old w hout
    have hfin := fun p => fin (p := p) (w' := W.alloc p) (s' := ⟨ws, lg, ah⟩) ⟨_, _, _, (hm1 p).mono (fun _ => .inl)⟩ (Fr.refl _ _)
    clear hm hm1 hs hin hout fin
    by_cases h0 : k.tmod 3 = 0
    · have hb0 : (k.tmod 3 == 0) = true := by simpa using h0
      clear h0
      go_enter Try.func7, Try.ntmps7
      go_wp2_with (go_at_call 14; refine (C1 _).mono ?_; rintro e w' ⟨rfl, rfl⟩)
      go_end0
      exact ⟨rfl, hfin _⟩
    have hb0 : (k.tmod 3 == 0) = false := by simpa using h0
    by_cases h1 : k.tmod 3 = 1
    · have hb1 : (k.tmod 3 == 1) = true := by simpa using h1
      clear h0 h1
      go_enter Try.func7, Try.ntmps7
      go_wp2_with (go_at_call 19; refine (C2 _).mono ?_; rintro e w' ⟨rfl, rfl⟩)
      go_end0
      exact ⟨rfl, hfin _⟩
    have hb1 : (k.tmod 3 == 1) = false := by simpa using h1
    by_cases h2 : k.tmod 3 = -1
    · have hb2 : (k.tmod 3 == -1) = true := by simpa using h2
      clear h0 h1 h2
      go_enter Try.func7, Try.ntmps7
      go_wp2_with (go_at_call 19; refine (C2 _).mono ?_; rintro e w' ⟨rfl, rfl⟩)
      go_end0
      exact ⟨rfl, hfin _⟩
    have hb2 : (k.tmod 3 == -1) = false := by simpa using h2
    clear h0 h1 h2
    go_enter Try.func7, Try.ntmps7
    go_wp2_with (go_at_call 15; refine (C3 _).mono ?_; rintro e w' ⟨rfl, rfl⟩)
    go_end0
    exact ⟨rfl, hfin _⟩
end Go.Proofs.Ytkfcfhgjhnmjlaa.Me
