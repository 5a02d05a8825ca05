/-
  access, with what stays of an elder log.
-/
import Derived.Test.YtkfcfhgjhnmjlaaLoAcc
import Derived.Test.YtkfcfhgjhnmjlaaMemHelp
namespace Go.Proofs.Ytkfcfhgjhnmjlaa.Me
open Go.RowKit Mr
/-- A memory, and an elder log beside it. -/
def MemP (W : World) (S : Nat → Prop) (b : Nat) (s : St) (mv : Int) (v0 : Value) (n0 : Nat) (xs0 : List Value) : Prop := ∃ vw vl va, Mem W S b vw vl va s.ws mv s.lg s.ah ∧ Past W vl v0 n0 xs0
theorem MemP.mem {W : World} {S : Nat → Prop} {b : Nat} {s : St} {mv : Int} {v0 : Value} {n0 : Nat} {xs0 : List Value} (h : MemP W S b s mv v0 n0 xs0) : MemS W S b s mv := let ⟨vw, vl, va, h1, _⟩ := h; ⟨vw, vl, va, h1⟩
theorem MemP.mono {W : World} {S T : Nat → Prop} {b : Nat} {s : St} {mv : Int} {v0 : Value} {n0 : Nat} {xs0 : List Value} (h : MemP W S b s mv v0 n0 xs0) (hT : ∀ k, S k → T k) : MemP W T b s mv v0 n0 xs0 := let ⟨vw, vl, va, h1, h2⟩ := h; ⟨vw, vl, va, h1.mono hT, h2⟩
theorem MemP.below {W W' : World} {S : Nat → Prop} {b : Nat} {s : St} {mv : Int} {v0 : Value} {n0 : Nat} {xs0 : List Value} (h : MemP W S b s mv v0 n0 xs0) (hB : Below W.heap.size W W') : MemP W' S b s mv v0 n0 xs0 := let ⟨vw, vl, va, h1, h2⟩ := h; ⟨vw, vl, va, h1.below hB, h2.below hB⟩
set_option maxRecDepth 100000 in
set_option maxHeartbeats 1000000 in
theorem access_past {W : World} {S : Nat → Prop} {b : Nat} {s : St} {mv : Int} {v0 : Value} {n0 : Nat} {xs0 : List Value} (h : MemP W S b s mv v0 n0 xs0) (hb : Roomy s.lg s.ah) (o : O) :
    Calls Try.prog 7 #[.pointer (some ⟨b, 0, none⟩), .agg #[.int .i64 o.k, .int .i64 o.th, .int .i64 o.ad, .int .i64 o.n, .int .u64 o.old, .int .u64 o.w]] W fun e w' => e = .returned (.tuple #[]) ∧ MemP w' (fun k => S k ∨ W.heap.size ≤ k) b (stp o mv s) mv v0 n0 xs0 ∧ Fr W w' S := by
  obtain ⟨vw, vl, va, hm, hp⟩ := h
  have hB : ∀ p, Below W.heap.size W (W.alloc p) := fun p => (Below.refl _ _).alloc (Nat.le_refl _) p
  have hm1 := fun p => hm.below (hB p)
  have hp1 := fun p => hp.below (hB p)
  clear hp
  have hszp : ∀ p, W.heap.size ≤ (W.alloc p).heap.size := fun p => (hB p).size
  have fin : ∀ {p : Obj} {w' : World} {s' : St}, MemP w' (fun k => S k ∨ (W.alloc p).heap.size ≤ k) b s' mv v0 n0 xs0 → Fr (W.alloc p) w' S → MemP w' (fun k => S k ∨ W.heap.size ≤ k) b s' mv v0 n0 xs0 ∧ Fr W w' S := fun {p w' s'} h1 h2 =>
    ⟨MemP.mono h1 (fun k hk => hk.elim .inl (fun hk => .inr (by have := hszp p; omega))), (Fr.of_below (hB p)).trans (h2.mono (fun _ => .inl))⟩
  obtain ⟨k, th, ad, n, old, w⟩ := o
  obtain ⟨ws, lg, ah⟩ := s
  simp only at hb hm hm1 ⊢
  by_cases hin : 0 ≤ ad ∧ ad < ws.length
  · obtain ⟨i, rfl⟩ : ∃ i : Nat, ad = i := ⟨ad.toNat, by omega⟩
    have hi : i < ws.length := by omega
    by_cases h0 : k.tmod 3 = 0
    · have hs : stp ⟨k, th, i, n, old, w⟩ mv ⟨ws, lg, ah⟩ = ⟨ws, lg ++ [⟨mv, th, 1, i, 0, 0, ws[i]?.getD 0⟩], ah⟩ := by simp [stp, hi, mkA, h0, putA, wrt]
      rw [hs]
      have C := fun p => load_ok_p (hm1 p) (hp1 p) hb th i hi
      have hb0 : (k.tmod 3 == 0) = true := by simpa using h0
      clear hm hm1 hp1 hs hin h0
      go_enter Try.func7, Try.ntmps7
      go_wp2_with (go_at_call 14; refine (C _).mono ?_; rintro e w' ⟨rfl, ⟨vl', h1, g1⟩, h2⟩)
      go_end0
      obtain ⟨q1, q2⟩ := fin (s' := ⟨_, _, _⟩) ⟨_, _, _, h1, g1⟩ h2
      exact ⟨rfl, q1, q2⟩
    · by_cases h1 : k.tmod 3 = 1 ∨ k.tmod 3 = -1
      · have hs : stp ⟨k, th, i, n, old, w⟩ mv ⟨ws, lg, ah⟩ = ⟨ws.set i w, lg ++ [⟨mv, th, 2, i, 0, w, 0⟩], ah ++ [ws[i]?.getD 0]⟩ := by simp [stp, hi, mkA, h0, h1, putA, wrt]
        rw [hs]
        have C := fun p => store_ok_p (hm1 p) (hp1 p) hb th w i hi
        have hb0 : (k.tmod 3 == 0) = false := by simpa using h0
        clear hm hm1 hp1 hs hin
        rcases h1 with h1 | h1
        · have hb1 : (k.tmod 3 == 1) = true := by simpa using h1
          clear h0 h1
          go_enter Try.func7, Try.ntmps7
          go_wp2_with (go_at_call 19; refine (C _).mono ?_; rintro e w' ⟨rfl, ⟨vl', va', h1, g1⟩, h2⟩)
          go_end0
          obtain ⟨q1, q2⟩ := fin (s' := ⟨_, _, _⟩) ⟨_, _, _, h1, g1⟩ h2
          exact ⟨rfl, q1, q2⟩
        · have hb1 : (k.tmod 3 == 1) = false := by simp; omega
          have hb2 : (k.tmod 3 == -1) = true := by simpa using h1
          clear h0 h1
          go_enter Try.func7, Try.ntmps7
          go_wp2_with (go_at_call 19; refine (C _).mono ?_; rintro e w' ⟨rfl, ⟨vl', va', h1, g1⟩, h2⟩)
          go_end0
          obtain ⟨q1, q2⟩ := fin (s' := ⟨_, _, _⟩) ⟨_, _, _, h1, g1⟩ h2
          exact ⟨rfl, q1, q2⟩
      · have hb0 : (k.tmod 3 == 0) = false := by simpa using h0
        have hb1 : (k.tmod 3 == 1) = false := by simp; omega
        have hb2 : (k.tmod 3 == -1) = false := by simp; omega
        by_cases ho : ws[i]?.getD 0 = old
        · have ho' : ws[i] = old := by simpa [hi] using ho
          have hs : stp ⟨k, th, i, n, old, w⟩ mv ⟨ws, lg, ah⟩ = ⟨ws.set i w, lg ++ [⟨mv, th, 3, i, old, w, old⟩], ah ++ [old]⟩ := by simp [stp, hi, mkA, h0, h1, putA, wrt, ho']
          rw [hs]
          have C := fun p => swap_hit_p (hm1 p) (hp1 p) hb th old w i hi ho
          clear hm hm1 hp1 hs hin h0 h1 ho ho'
          go_enter Try.func7, Try.ntmps7
          go_wp2_with (go_at_call 15; refine (C _).mono ?_; rintro e w' ⟨rfl, ⟨vl', va', h1, g1⟩, h2⟩)
          go_end0
          obtain ⟨q1, q2⟩ := fin (s' := ⟨_, _, _⟩) ⟨_, _, _, h1, g1⟩ h2
          exact ⟨rfl, q1, q2⟩
        · have ho' : ¬ ws[i] = old := by simpa [hi] using ho
          have hs : stp ⟨k, th, i, n, old, w⟩ mv ⟨ws, lg, ah⟩ = ⟨ws, lg ++ [⟨mv, th, 3, i, old, w, ws[i]?.getD 0⟩], ah⟩ := by simp [stp, hi, mkA, h0, h1, putA, wrt, ho']
          rw [hs]
          have C := fun p => swap_miss_p (hm1 p) (hp1 p) hb th old w i hi ho
          clear hm hm1 hp1 hs hin h0 h1 ho ho'
          go_enter Try.func7, Try.ntmps7
          go_wp2_with (go_at_call 15; refine (C _).mono ?_; rintro e w' ⟨rfl, ⟨vl', h1, g1⟩, h2⟩)
          go_end0
          obtain ⟨q1, q2⟩ := fin (s' := ⟨_, _, _⟩) ⟨_, _, _, h1, g1⟩ h2
          exact ⟨rfl, q1, q2⟩
  · have hs : stp ⟨k, th, ad, n, old, w⟩ mv ⟨ws, lg, ah⟩ = ⟨ws, lg, ah⟩ := by simp only [stp, if_neg hin]
    rw [hs]
    have hout : ad < 0 ∨ (ws.length : Int) ≤ ad := by omega
    have C1 := fun p => load_no (hm1 p) th ad hout
    have C2 := fun p => store_no (hm1 p) th ad w hout
    have C3 := fun p => swap_no (hm1 p) th ad old w hout
    have hfin := fun p => fin (p := p) (w' := W.alloc p) (s' := ⟨ws, lg, ah⟩) ⟨_, _, _, (hm1 p).mono (fun _ => .inl), hp1 p⟩ (Fr.refl _ _)
    clear hm hm1 hp1 hs hin hout fin
    by_cases h0 : k.tmod 3 = 0
    · have hb0 : (k.tmod 3 == 0) = true := by simpa using h0
      clear h0
      go_enter Try.func7, Try.ntmps7
      go_wp2_with (go_at_call 14; refine (C1 _).mono ?_; rintro e w' ⟨rfl, rfl⟩)
      go_end0
      exact ⟨rfl, hfin _⟩
    have hb0 : (k.tmod 3 == 0) = false := by simpa using h0
    by_cases h1 : k.tmod 3 = 1
    · have hb1 : (k.tmod 3 == 1) = true := by simpa using h1
      clear h0 h1
      go_enter Try.func7, Try.ntmps7
      go_wp2_with (go_at_call 19; refine (C2 _).mono ?_; rintro e w' ⟨rfl, rfl⟩)
      go_end0
      exact ⟨rfl, hfin _⟩
    have hb1 : (k.tmod 3 == 1) = false := by simpa using h1
    by_cases h2 : k.tmod 3 = -1
    · have hb2 : (k.tmod 3 == -1) = true := by simpa using h2
      clear h0 h1 h2
      go_enter Try.func7, Try.ntmps7
      go_wp2_with (go_at_call 19; refine (C2 _).mono ?_; rintro e w' ⟨rfl, rfl⟩)
      go_end0
      exact ⟨rfl, hfin _⟩
    have hb2 : (k.tmod 3 == -1) = false := by simpa using h2
    clear h0 h1 h2
    go_enter Try.func7, Try.ntmps7
    go_wp2_with (go_at_call 15; refine (C3 _).mono ?_; rintro e w' ⟨rfl, rfl⟩)
    go_end0
    exact ⟨rfl, hfin _⟩
end Go.Proofs.Ytkfcfhgjhnmjlaa.Me
