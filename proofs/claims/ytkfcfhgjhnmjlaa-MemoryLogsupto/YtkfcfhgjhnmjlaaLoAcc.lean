/-
  Load, Store, Swap, with what stays of an elder log.
-/
import Derived.Test.YtkfcfhgjhnmjlaaLoNote
namespace Go.Proofs.Ytkfcfhgjhnmjlaa.Me
open Go.RowKit Mr
section
variable {W : World} {S : Nat → Prop} {b : Nat} {vw vl va : Value} {ws : List Int} {mv : Int} {lg : List Acc} {ah : List Int} {v0 : Value} {n0 : Nat} {xs0 : List Value}
set_option maxRecDepth 100000 in
theorem load_ok_p (h : Mem W S b vw vl va ws mv lg ah) (hp : Past W vl v0 n0 xs0) (hb : Roomy lg ah) (th : Int) (i : Nat) (hi : i < ws.length) :
    Calls Try.prog 14 #[.pointer (some ⟨b, 0, none⟩), .int .i64 th, .int .i64 i] W fun e w' => e = .returned (.tuple #[.int .u64 (ws[i]?.getD 0), .int .i64 0]) ∧
      (∃ vl', Mem w' (fun k => S k ∨ W.heap.size ≤ k) b vw vl' va ws mv (lg ++ [⟨mv, th, 1, i, 0, 0, ws[i]?.getD 0⟩]) ah ∧ Past w' vl' v0 n0 xs0) ∧ Fr W w' S := by
  have C := has_yes h i (by omega) (by omega)
  have D := note_past h hp hb.1 0 th 1 i 0 0 (ws[i]?.getD 0)
  obtain ⟨gw, cw, hvw, c1, c0⟩ := h.at i hi
  generalize ws[i]?.getD 0 = y at *
  have hi := Mr.hid hi
  have hi' : i < ws.length := hi.out
  generalize ws.length = n at *
  have h := Mr.hid h
  clear hb hp
  go_enter Try.func14, Try.ntmps14
  go_wp2_with (first | (go_at_call 23; refine C.mono ?_; rintro e w' ⟨rfl, rfl⟩) | (go_at_call 24; refine D.mono ?_; rintro e w1 ⟨rfl, hm, hf⟩))
  go_ret2
  exact ⟨rfl, hm, hf⟩
set_option maxRecDepth 100000 in
theorem store_ok_p (h : Mem W S b vw vl va ws mv lg ah) (hp : Past W vl v0 n0 xs0) (hb : Roomy lg ah) (th x : Int) (i : Nat) (hi : i < ws.length) :
    Calls Try.prog 19 #[.pointer (some ⟨b, 0, none⟩), .int .i64 th, .int .i64 i, .int .u64 x] W fun e w' => e = .returned (.int .i64 0) ∧
      (∃ vl' va', Mem w' (fun k => S k ∨ W.heap.size ≤ k) b vw vl' va' (ws.set i x) mv (lg ++ [⟨mv, th, 2, i, 0, x, 0⟩]) (ah ++ [ws[i]?.getD 0]) ∧ Past w' vl' v0 n0 xs0) ∧ Fr W w' S := by
  have C := has_yes h i (by omega) (by omega)
  have D := note_past h hp hb.1 0 th 2 i 0 x 0
  go_enter Try.func19, Try.ntmps19
  go_wp2_with (first | (go_at_call 23; refine C.mono ?_; rintro e w' ⟨rfl, rfl⟩) | (go_at_call 24; refine D.mono ?_; rintro e w1 ⟨rfl, ⟨vl', hm, hp1⟩, hf⟩) | (go_at_call 25; refine (write_past hm hp1 hb.2 i hi x).mono ?_; rintro e w2 ⟨rfl, ⟨va', hm2, hp2⟩, hf2⟩))
  go_ret
  have hs := hf.size
  exact ⟨rfl, ⟨_, _, hm2.mono (fun k hk => by rcases hk with (hk | hk) | hk; exact .inl hk; exact .inr hk; exact .inr (by omega)), hp2⟩, hf.trans hf2⟩
set_option maxRecDepth 100000 in
theorem swap_hit_p (h : Mem W S b vw vl va ws mv lg ah) (hp : Past W vl v0 n0 xs0) (hb : Roomy lg ah) (th old x : Int) (i : Nat) (hi : i < ws.length) (ho : ws[i]?.getD 0 = old) :
    Calls Try.prog 15 #[.pointer (some ⟨b, 0, none⟩), .int .i64 th, .int .i64 i, .int .u64 old, .int .u64 x] W fun e w' => e = .returned (.tuple #[.int .u64 old, .bool true, .int .i64 0]) ∧
      (∃ vl' va', Mem w' (fun k => S k ∨ W.heap.size ≤ k) b vw vl' va' (ws.set i x) mv (lg ++ [⟨mv, th, 3, i, old, x, old⟩]) (ah ++ [old]) ∧ Past w' vl' v0 n0 xs0) ∧ Fr W w' S := by
  have C := has_yes h i (by omega) (by omega)
  have D := note_past h hp hb.1 0 th 3 i old x old
  have E := fun {W' : World} {S' : Nat → Prop} {vl' : Value} {lg' : List Acc} (hm : Mem W' S' b vw vl' va ws mv lg' ah) (hq : Past W' vl' v0 n0 xs0) => write_past hm hq hb.2 i hi x
  obtain ⟨gw, cw, hvw, c1, c0⟩ := h.at i hi
  rw [ho] at c1
  simp only [ho] at E
  clear ho hb h hp
  generalize hn : ws.length = n at *
  clear hn
  go_enter Try.func15, Try.ntmps15
  go_wp2_with (first | (go_at_call 23; refine C.mono ?_; rintro e w' ⟨rfl, rfl⟩) | (go_at_call 24; refine D.mono ?_; rintro e w1 ⟨rfl, ⟨vl', hm, hp1⟩, hf⟩) | (go_at_call 25; refine (E hm hp1).mono ?_; rintro e w2 ⟨rfl, ⟨va', hm2, hp2⟩, hf2⟩))
  go_ret3
  have hs := hf.size
  exact ⟨rfl, ⟨_, _, hm2.mono (fun k hk => by rcases hk with (hk | hk) | hk; exact .inl hk; exact .inr hk; exact .inr (by omega)), hp2⟩, hf.trans hf2⟩
set_option maxRecDepth 100000 in
theorem swap_miss_p (h : Mem W S b vw vl va ws mv lg ah) (hp : Past W vl v0 n0 xs0) (hb : Roomy lg ah) (th old x : Int) (i : Nat) (hi : i < ws.length) (ho : ws[i]?.getD 0 ≠ old) :
    Calls Try.prog 15 #[.pointer (some ⟨b, 0, none⟩), .int .i64 th, .int .i64 i, .int .u64 old, .int .u64 x] W fun e w' => e = .returned (.tuple #[.int .u64 (ws[i]?.getD 0), .bool false, .int .i64 0]) ∧
      (∃ vl', Mem w' (fun k => S k ∨ W.heap.size ≤ k) b vw vl' va ws mv (lg ++ [⟨mv, th, 3, i, old, x, ws[i]?.getD 0⟩]) ah ∧ Past w' vl' v0 n0 xs0) ∧ Fr W w' S := by
  have C := has_yes h i (by omega) (by omega)
  have D := note_past h hp hb.1 0 th 3 i old x (ws[i]?.getD 0)
  obtain ⟨gw, cw, hvw, c1, c0⟩ := h.at i hi
  generalize ws[i]?.getD 0 = y at *
  have hi := Mr.hid hi
  have hi' : i < ws.length := hi.out
  generalize ws.length = n at *
  have h := Mr.hid h
  clear hb hp
  have hne : (y != old) = true := by simpa using ho
  go_enter Try.func15, Try.ntmps15
  go_wp2_with (first | (go_at_call 23; refine C.mono ?_; rintro e w' ⟨rfl, rfl⟩) | (go_at_call 24; refine D.mono ?_; rintro e w1 ⟨rfl, hm, hf⟩))
  go_ret3
  exact ⟨rfl, hm, hf⟩
end
end Go.Proofs.Ytkfcfhgjhnmjlaa.Me
