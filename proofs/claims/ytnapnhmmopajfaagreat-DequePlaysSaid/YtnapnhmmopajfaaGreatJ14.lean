import Derived.Laws.BitsAllLaws
import Derived.Laws.Wrap64
import Derived.OpenShut
import Derived.Test.YtnapnhmmopajfaaGreatJ13
import Derived.Laws.EntriesVeiled
/-
  PLAIN ARITHMETIC of packed words: no Go in sight.
-/
namespace Go.Proofs.YtnapnhmmopajfaaGreat.Wp
open Go Go.RowKit

/-- A link's word. -/
def packLink (i : Int) (m : Bool) : Int := i + 1 + (if m then 4294967296 else 0)
/-- A head's word. -/
def packHead (t : Int) (i : Int) : Int := t * 4294967296 + (i + 1)
def isLinkB (w : Int) : Bool := decide (w < 8589934592) && decide (w % 4294967296 ≤ 2147483647)

theorem packLink_bd (i : Int) (m : Bool) (h1 : -1 ≤ i) (h2 : i ≤ 2147483646) : 0 ≤ packLink i m ∧ packLink i m ≤ 6442450943 := by
  unfold packLink; split <;> omega

theorem or_mark (x : Int) (h1 : 0 ≤ x) (h2 : x ≤ 2147483647) : bits .or .u64 x 4294967296 = x + 4294967296 := by
  obtain ⟨n, rfl⟩ := Int.eq_ofNat_of_zero_le h1
  have := u64_or_nat n 4294967296 (by omega) (by decide)
  have e : n ||| 4294967296 = n + 4294967296 := by
    rw [Nat.or_comm, nat_join 32 4294967296 n (by decide) (by omega), Nat.add_comm]
  rw [e] at this
  rw [show (4294967296 : Int) = ((4294967296 : Nat) : Int) from rfl, this]; rfl

theorem and_low (x : Int) (h1 : 0 ≤ x) (h2 : x ≤ 18446744073709551615) : bits .and .u64 x 4294967295 = x % 4294967296 := by
  obtain ⟨n, rfl⟩ := Int.eq_ofNat_of_zero_le h1
  have := u64_and_nat n 4294967295 (by omega) (by decide)
  have e : n &&& 4294967295 = n % 4294967296 := Nat.and_two_pow_sub_one_eq_mod n 32
  rw [e] at this
  rw [show (4294967295 : Int) = ((4294967295 : Nat) : Int) from rfl, this]; omega

theorem and_mark (x : Int) (h1 : 0 ≤ x) (h2 : x ≤ 18446744073709551615) : bits .and .u64 x 4294967296 = x / 4294967296 % 2 * 4294967296 := by
  obtain ⟨n, rfl⟩ := Int.eq_ofNat_of_zero_le h1
  have := u64_and_nat n 4294967296 (by omega) (by decide)
  have e : n &&& 4294967296 = n / 4294967296 % 2 * 4294967296 := nat_bit 32 n
  rw [e] at this
  rw [show (4294967296 : Int) = ((4294967296 : Nat) : Int) from rfl, this]; omega

theorem andNot_link (x : Int) (h1 : 0 ≤ x) (h2 : x ≤ 18446744073709551615) : bits .andNot .u64 x 8589934591 = x / 8589934592 * 8589934592 := by
  obtain ⟨n, rfl⟩ := Int.eq_ofNat_of_zero_le h1
  have := u64_andNot_nat n 8589934591 (by omega) (by decide)
  have e : n &&& (18446744073709551615 - 8589934591) = n / 8589934592 * 8589934592 := by
    apply Nat.eq_of_testBit_eq
    intro i
    rw [show (8589934592 : Nat) = 2 ^ 33 from rfl, Nat.testBit_and, Nat.testBit_mul_two_pow, Nat.testBit_div_two_pow]
    rw [show (18446744073709551615 - 8589934591 : Nat) = (2 ^ 31 - 1) * 2 ^ 33 from rfl, Nat.testBit_mul_two_pow, Nat.testBit_two_pow_sub_one]
    by_cases hi : 33 ≤ i
    · simp only [hi, decide_true, Bool.true_and]
      rw [show i - 33 + 33 = i from by omega]
      by_cases h64 : i - 33 < 31
      · simp [h64]
      · have : n.testBit i = false := Nat.testBit_lt_two_pow (Nat.lt_of_lt_of_le (show n < 2 ^ 64 by omega) (Nat.pow_le_pow_right (by decide) (by omega)))
        simp [this]
    · simp [hi]
  rw [e] at this
  rw [show (8589934591 : Int) = ((8589934591 : Nat) : Int) from rfl, this]; omega

theorem or_head (t x : Int) (h0 : 0 ≤ t) (h0' : t ≤ 4294967295) (h1 : 0 ≤ x) (h2 : x ≤ 2147483647) : bits .or .u64 (t * 4294967296) x = t * 4294967296 + x := by
  obtain ⟨n, rfl⟩ := Int.eq_ofNat_of_zero_le h1
  obtain ⟨k, rfl⟩ := Int.eq_ofNat_of_zero_le h0
  have := u64_or_nat (k * 4294967296) n (by omega) (by omega)
  have e : k * 4294967296 ||| n = k * 4294967296 + n := nat_join 32 _ n (by omega) (by omega)
  rw [e] at this
  rw [show ((k : Int) * 4294967296) = ((k * 4294967296 : Nat) : Int) from by omega, this]; omega

theorem wrap64_small (x : Int) (h1 : 0 ≤ x) (h2 : x ≤ 9223372036854775807) : wrap64 x = x := by unfold wrap64; omega
theorem wrapu64_small (x : Int) (h1 : 0 ≤ x) (h2 : x ≤ 18446744073709551615) : IntKind.u64.wrap x = x := by rw [IntKind.wrap_u64]; omega
end Go.Proofs.YtnapnhmmopajfaaGreat.Wp
/-
  THE DEQUE's TASKS at the desk: load, store, raiseTop, EndHere; a course's Step and Ready.
-/
namespace Go.Proofs.YtnapnhmmopajfaaGreat.Dm
open Go.RowKit Mr Me Ma Gm
set_option linter.unusedVariables false
set_option linter.unusedSimpArgs false
set_option maxRecDepth 100000
theorem i64w (x : Int) (h1 : -9223372036854775808 ≤ x) (h2 : x ≤ 9223372036854775807) : IntKind.i64.wrap x = x := by
  simp [IntKind.wrap, IntKind.signed, IntKind.bits]; omega
theorem value_any (x : Int) (w : World) : Calls Tryz.prog 70 #[.int .u64 x] w fun e w' => e = .returned (.int .i64 (wrap64 x)) ∧ w' = w := by
  go_enter Tryz.func70, Tryz.ntmps70
  go_wp2
  go_ret
  exact ⟨rfl, rfl⟩
theorem number_any (x : Int) (w : World) : Calls Tryz.prog 85 #[.int .i64 x] w fun e w' => e = .returned (.int .u64 (IntKind.u64.wrap x)) ∧ w' = w := by
  go_enter Tryz.func85, Tryz.ntmps85
  go_wp2
  go_ret
  exact ⟨rfl, rfl⟩
theorem nil_eq (w : World) : (binOp .eql 128 .nilFunc .nilFunc).run Tryz.prog w = .ok (.bool true) w := by kernel_rfl
theorem nil_ne (w : World) : (binOp .neq 128 .nilFunc .nilFunc).run Tryz.prog w = .ok (.bool false) w := by kernel_rfl
theorem fn_eq (f : Fn) (a b : Array Value) (w : World) : (binOp .eql 128 (.func f a b) .nilFunc).run Tryz.prog w = .ok (.bool false) w := by kernel_rfl
theorem fn_ne (f : Fn) (a b : Array Value) (w : World) : (binOp .neq 128 (.func f a b) .nilFunc).run Tryz.prog w = .ok (.bool true) w := by kernel_rfl
section
variable {W0 : World} {U0 S0 X0 : Nat → Prop} {p : Ph} {i : Nat} {now : Int} {X : Nat → Obj → Prop} {s : Ss} {W : World} {sp : Bool}
set_option maxHeartbeats 1000000 in
theorem load_any (h : D W0 U0 S0 X0 p i now X false s W) (hb : Me.Roomy s.lg s.ah) (ad : Nat) (hi : ad < s.ws.length) :
    Calls Tryz.prog 60 #[.pointer (some ⟨p.bd, 0, none⟩), .int .i64 (ad : Int)] W fun e w' => e = .returned (.int .i64 (wrap64 (rd s.ws ad))) ∧ D W0 U0 S0 X0 p i now X true (s.loads i now ad) w' := by
  have L := desk_load h hb ad hi
  unfold rd
  generalize (s.ws[ad]?).getD 0 = x at *
  generalize s.loads i now ad = s1 at *
  clear h hb hi
  go_enter Tryz.func60, Tryz.ntmps60
  go_wp2_with (first | (go_at_call 71; refine L.mono ?_; clear L; rintro e w1 ⟨rfl, h1⟩; replace h1 := Mr.hid h1) | (go_at_call 70; refine (value_any _ _).mono ?_; rintro e w9 ⟨rfl, hw9⟩; obtain rfl := hw9.symm))
  go_ret
  exact ⟨rfl, h1.out⟩
set_option maxHeartbeats 1000000 in
theorem store_any (h : D W0 U0 S0 X0 p i now X false s W) (hb : Me.Roomy s.lg s.ah) (ad : Nat) (hi : ad < s.ws.length) (x : Int) :
    Calls Tryz.prog 74 #[.pointer (some ⟨p.bd, 0, none⟩), .int .i64 (ad : Int), .int .i64 x] W fun e w' => e = .returned (.tuple #[]) ∧ D W0 U0 S0 X0 p i now X true (s.stores i now ad (nU x)) w' := by
  have L := desk_store h hb ad hi (nU x)
  unfold nU at *
  generalize s.stores i now ad (IntKind.u64.wrap x) = s1 at *
  clear h hb hi
  go_enter Tryz.func74, Tryz.ntmps74
  go_wp2_with (first | (go_at_call 84; refine L.mono ?_; clear L; rintro e w1 ⟨rfl, h1⟩; replace h1 := Mr.hid h1) | (go_at_call 85; refine (number_any _ _).mono ?_; rintro e w9 ⟨rfl, hw9⟩; obtain rfl := hw9.symm))
  go_end0
  exact ⟨rfl, h1.out⟩
set_option maxHeartbeats 1000000 in
theorem raise_hit (h : D W0 U0 S0 X0 p i now X false s W) (hb : Me.Roomy s.lg s.ah) (hi : 0 < s.ws.length) (k : Nat) (hk : k ≤ 1000000) (ho : rd s.ws 0 = (k : Int)) :
    Calls Tryz.prog 98 #[.pointer (some ⟨p.bd, 0, none⟩), .int .i64 (k : Int)] W fun e w' => e = .returned (.bool true) ∧ D W0 U0 S0 X0 p i now X true (s.hits i now 0 (k : Int) ((k : Int) + 1)) w' := by
  have L := desk_hit h hb 0 hi (k : Int) ((k : Int) + 1) ho
  have e1 : IntKind.u64.wrap (k : Int) = (k : Int) := Wp.wrapu64_small _ (by omega) (by omega)
  have e2 : IntKind.i64.wrap ((k : Int) + 1) = (k : Int) + 1 := i64w _ (by omega) (by omega)
  have e3 : IntKind.u64.wrap ((k : Int) + 1) = (k : Int) + 1 := Wp.wrapu64_small _ (by omega) (by omega)
  generalize s.hits i now 0 (k : Int) ((k : Int) + 1) = s1 at *
  clear h hb hi ho
  go_enter Tryz.func98, Tryz.ntmps98
  go_wp2_with (first | (go_at_call 103; refine L.mono ?_; clear L; rintro e w1 ⟨rfl, h1⟩; replace h1 := Mr.hid h1) | (go_at_call 85; refine (number_any _ _).mono ?_; rintro e w9 ⟨rfl, hw9⟩; obtain rfl := hw9.symm))
  go_ret
  exact ⟨rfl, h1.out⟩
set_option maxHeartbeats 1000000 in
theorem raise_miss (h : D W0 U0 S0 X0 p i now X false s W) (hb : Me.Roomy s.lg s.ah) (hi : 0 < s.ws.length) (k : Nat) (hk : k ≤ 1000000) (ho : rd s.ws 0 ≠ (k : Int)) :
    Calls Tryz.prog 98 #[.pointer (some ⟨p.bd, 0, none⟩), .int .i64 (k : Int)] W fun e w' => e = .returned (.bool false) ∧ D W0 U0 S0 X0 p i now X true (s.misses i now 0 (k : Int) ((k : Int) + 1)) w' := by
  have L := desk_miss h hb 0 hi (k : Int) ((k : Int) + 1) ho
  have e1 : IntKind.u64.wrap (k : Int) = (k : Int) := Wp.wrapu64_small _ (by omega) (by omega)
  have e2 : IntKind.i64.wrap ((k : Int) + 1) = (k : Int) + 1 := i64w _ (by omega) (by omega)
  have e3 : IntKind.u64.wrap ((k : Int) + 1) = (k : Int) + 1 := Wp.wrapu64_small _ (by omega) (by omega)
  generalize s.misses i now 0 (k : Int) ((k : Int) + 1) = s1 at *
  clear h hb hi ho
  go_enter Tryz.func98, Tryz.ntmps98
  go_wp2_with (first | (go_at_call 103; refine L.mono ?_; clear L; rintro e w1 ⟨rfl, h1⟩; replace h1 := Mr.hid h1) | (go_at_call 85; refine (number_any _ _).mono ?_; rintro e w9 ⟨rfl, hw9⟩; obtain rfl := hw9.symm))
  go_ret
  exact ⟨rfl, h1.out⟩
/-- A course whose method goes on, or ends. -/
theorem course_step {b f : Nat} {a : Value} {nv : Value} {Q : World → Prop} (hc : W.cell? ⟨b, 1, none⟩ = some (fnv f b)) (es : ∀ args w, (callFunc f args).run Tryz.prog w = .ok (.enter f args) w) (C : Calls Tryz.prog f #[.pointer (some ⟨b, 0, none⟩), a] W fun e w' => e = .returned (.tuple #[]) ∧ w'.cell? ⟨b, 1, none⟩ = some nv ∧ Q w') {r : Bool} (hr : (nv = .nilFunc ∧ r = true) ∨ (∃ g, nv = fnv g b ∧ r = false)) :
    Calls Tryz.prog 122 #[.pointer (some ⟨b, 0, none⟩), a] W fun e w' => e = .returned (.bool r) ∧ Q w' := by
  have q1 := fn_ne
  have q2 := fn_eq
  have q3 := nil_eq
  unfold fnv at hc hr
  rcases hr with ⟨rfl, rfl⟩ | ⟨g, rfl, rfl⟩
  · go_enter Tryz.func122, Tryz.ntmps122
    go_wp2
    refine C.mono ?_
    clear C
    rintro e w1 ⟨rfl, c1, h1⟩
    replace h1 := Mr.hid h1
    go_wp2
    go_ret
    exact ⟨rfl, h1.out⟩
  · go_enter Tryz.func122, Tryz.ntmps122
    go_wp2
    refine C.mono ?_
    clear C
    rintro e w1 ⟨rfl, c1, h1⟩
    replace h1 := Mr.hid h1
    go_wp2
    go_ret
    exact ⟨rfl, h1.out⟩
theorem course_ready {b f : Nat} {a : Value} (h0 : W.cell? ⟨b, 0, none⟩ = some .nilFunc) (hc : W.cell? ⟨b, 1, none⟩ = some (fnv f b)) :
    Calls Tryz.prog 121 #[.pointer (some ⟨b, 0, none⟩), a] W fun e w' => e = .returned (.bool false) ∧ w' = W := by
  have q1 := nil_ne
  have q2 := fn_eq
  unfold fnv at hc
  go_enter Tryz.func121, Tryz.ntmps121
  go_wp2
  go_ret
  exact ⟨rfl, rfl⟩
end
end Go.Proofs.YtnapnhmmopajfaaGreat.Dm
