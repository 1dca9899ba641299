/- Layer 8, the landed program: the finder in memory; count, note, made. -/
import Derived.Test.YtlfnglinalmpjaaMkPBits
import Derived.Test.YtlfnglinalmpjaaVpCel
import Derived.Test.YtlfnglinalmpjaaMkLaw
import Derived.LaidEqlPtr
namespace Go.Proofs.Ytlfnglinalmpjaa
open Go.RowKit
set_option linter.unusedVariables false

/-- The cells of a finder. -/
def pobj (P : Addr) (len T : Nat) (lk : Bool) (ms : Nat) (kv hv : Value) : Nat → Value
  | 0 => .int .i64 (T : Nat)
  | 1 => .bool lk
  | 2 => .int .i64 (ms : Nat)
  | 3 => .pointer (some P)
  | 4 => .int .i64 (len : Nat)
  | 5 => kv
  | _ => hv
theorem pobj_set0 (O : Addr) (len T T' : Nat) (lk : Bool) (ms : Nat) (kv hv : Value) : ∀ j, j < 7 → (if j = 0 then Value.int .i64 (T' : Nat) else pobj O len T lk ms kv hv j) = pobj O len T' lk ms kv hv j := by
  intro j hj
  match j, hj with
  | 0, _ => rfl
  | 1, _ => rfl
  | 2, _ => rfl
  | 3, _ => rfl
  | 4, _ => rfl
  | 5, _ => rfl
  | 6, _ => rfl
theorem pobj_set1 (O : Addr) (len T : Nat) (lk lk' : Bool) (ms : Nat) (kv hv : Value) : ∀ j, j < 7 → (if j = 1 then Value.bool lk' else pobj O len T lk ms kv hv j) = pobj O len T lk' ms kv hv j := by
  intro j hj
  match j, hj with
  | 0, _ => rfl
  | 1, _ => rfl
  | 2, _ => rfl
  | 3, _ => rfl
  | 4, _ => rfl
  | 5, _ => rfl
  | 6, _ => rfl
theorem pobj_set2 (O : Addr) (len T : Nat) (lk : Bool) (ms ms' : Nat) (kv hv : Value) : ∀ j, j < 7 → (if j = 2 then Value.int .i64 (ms' : Nat) else pobj O len T lk ms kv hv j) = pobj O len T lk ms' kv hv j := by
  intro j hj
  match j, hj with
  | 0, _ => rfl
  | 1, _ => rfl
  | 2, _ => rfl
  | 3, _ => rfl
  | 4, _ => rfl
  | 5, _ => rfl
  | 6, _ => rfl
theorem pobj_set5 (O : Addr) (len T : Nat) (lk : Bool) (ms : Nat) (kv kv' hv : Value) : ∀ j, j < 7 → (if j = 5 then kv' else pobj O len T lk ms kv hv j) = pobj O len T lk ms kv' hv j := by
  intro j hj
  match j, hj with
  | 0, _ => rfl
  | 1, _ => rfl
  | 2, _ => rfl
  | 3, _ => rfl
  | 4, _ => rfl
  | 5, _ => rfl
  | 6, _ => rfl
theorem pobj_set6 (O : Addr) (len T : Nat) (lk : Bool) (ms : Nat) (kv hv hv' : Value) : ∀ j, j < 7 → (if j = 6 then hv' else pobj O len T lk ms kv hv j) = pobj O len T lk ms kv hv' j := by
  intro j hj
  match j, hj with
  | 0, _ => rfl
  | 1, _ => rfl
  | 2, _ => rfl
  | 3, _ => rfl
  | 4, _ => rfl
  | 5, _ => rfl
  | 6, _ => rfl
set_option maxRecDepth 100000 in
theorem count_any (P T len ms : Nat) (lk : Bool) (O : Addr) (kv hv : Value) (T1 : Nat) (hT1 : T + 1 = T1) (hT : T ≤ 1000000000) (w : World) (F : Cel w P 7 (pobj O len T lk ms kv hv)) :
    Calls Try.prog 43 #[.pointer (some ⟨P, 0, none⟩)] w fun e w' => e = .returned (.tuple #[]) ∧ Cel w' P 7 (pobj O len T1 lk ms kv hv) ∧ But P w w' := by
  have c0 := F.cell (j := 0) (by omega)
  have z0 := F.frozen (j := 0) (by omega)
  simp only [pobj] at c0
  have FF := Lib.hid ((F.set 0 (.int .i64 (T1 : Nat))).congr (pobj_set0 O len T T1 lk ms kv hv))
  have BB := Lib.hid ((But.refl P w).setCell 0 (.int .i64 (T1 : Nat)))
  have e1 : IntKind.i64.wrap ((T : Int) + 1) = (T1 : Int) := by rw [IntKind.wrap_i64]; omega
  clear hT1 F
  go_enter Try.func43, Try.ntmps43
  go_wp2_with fail
  go_end0
  exact ⟨rfl, FF.out, BB.out⟩
/-- What note does. -/
def ntL (lk : Bool) (ms : Nat) (b : Bool) : Bool := if b = true then true else if lk = true then decide (ms + 1 < 3) else false
def ntM (lk : Bool) (ms : Nat) (b : Bool) : Nat := if b = true then 0 else if lk = true then ms + 1 else ms
set_option maxRecDepth 100000 in
theorem note_any (P T len ms : Nat) (lk : Bool) (O : Addr) (kv hv : Value) (b : Bool) (hms : ms ≤ 1000000000) (w : World) (F : Cel w P 7 (pobj O len T lk ms kv hv)) :
    Calls Try.prog 44 #[.pointer (some ⟨P, 0, none⟩), .bool b] w fun e w' => e = .returned (.tuple #[]) ∧ Cel w' P 7 (pobj O len T (ntL lk ms b) (ntM lk ms b) kv hv) ∧ But P w w' := by
  have c1 := F.cell (j := 1) (by omega)
  have z1 := F.frozen (j := 1) (by omega)
  have c2 := F.cell (j := 2) (by omega)
  have z2 := F.frozen (j := 2) (by omega)
  simp only [pobj] at c1 c2
  cases b with
  | true =>
    have F1 := (F.set 1 (.bool true)).congr (pobj_set1 O len T lk true ms kv hv)
    have FF := Lib.hid ((F1.set 2 (.int .i64 (0 : Nat))).congr (pobj_set2 O len T true ms 0 kv hv))
    have BB := Lib.hid (((But.refl P w).setCell 1 (.bool true)).setCell 2 (.int .i64 (0 : Nat)))
    clear F F1
    go_enter Try.func44, Try.ntmps44
    go_wp2_with fail
    go_end0
    exact ⟨rfl, FF.out, BB.out⟩
  | false =>
    cases lk with
    | false =>
      have FF := Lib.hid F
      clear F
      go_enter Try.func44, Try.ntmps44
      go_wp2_with fail
      go_end0
      exact ⟨rfl, FF.out, But.refl _ _⟩
    | true =>
      obtain ⟨m1, hm⟩ : ∃ m1, ms + 1 = m1 := ⟨_, rfl⟩
      obtain ⟨b1, hb1⟩ : ∃ b1, decide (m1 < 3) = b1 := ⟨_, rfl⟩
      have e1 : IntKind.i64.wrap ((ms : Int) + 1) = (m1 : Int) := by rw [IntKind.wrap_i64]; omega
      have t1 : decide ((m1 : Int) < 3) = b1 := by rw [← hb1]; simp; omega
      have E1 := Lib.hid (show ntL true ms false = b1 by rw [← hb1, ← hm]; rfl)
      have E2 := Lib.hid (show ntM true ms false = m1 by rw [← hm]; rfl)
      have F1 := (F.set 2 (.int .i64 (m1 : Nat))).congr (pobj_set2 O len T true ms m1 kv hv)
      have d2 := F1.cell (j := 2) (by omega)
      have d1 := F1.frozen (j := 1) (by omega)
      simp only [pobj] at d2
      have FF := Lib.hid ((F1.set 1 (.bool b1)).congr (pobj_set1 O len T true b1 m1 kv hv))
      have BB := Lib.hid (((But.refl P w).setCell 2 (.int .i64 (m1 : Nat))).setCell 1 (.bool b1))
      clear F F1 hm hb1
      go_enter Try.func44, Try.ntmps44
      go_wp2_with fail
      go_end0
      exact ⟨rfl, by rw [E1.out, E2.out]; exact FF.out, BB.out⟩
theorem eql_self (O : Addr) (w : World) : (binOp .eql 31 (.pointer (some O)) (.pointer (some O))).run Try.prog w = .ok (.bool true) w := by
  obtain ⟨j, hj⟩ := Option.isSome_iff_exists.1 (show (Try.prog.info? 63).isSome = true by kernel_rfl)
  exact run_eql_ptr_same w O Try.underlying31 hj
theorem eql_none (O : Addr) (w : World) : (binOp .eql 31 (.pointer none) (.pointer (some O))).run Try.prog w = .ok (.bool false) w := by
  have h : ∀ d : Nat, (Op.equalIn (d + 1) 31 (.pointer none) (.pointer (some O))).run Try.prog w = .ok false w := fun d => by
    simp [Op.equalIn, run_underlying Try.underlying31]
  simp only [binOp]
  simp [Op.equal, Op.maxDepth, h 9999]
set_option maxRecDepth 100000 in
theorem made_any (P T len ms : Nat) (lk : Bool) (kv hv : Value) (w : World) (F : Cel w P 7 (pobj ⟨P, 0, none⟩ len T lk ms kv hv)) :
    Calls Try.prog 35 #[.pointer (some ⟨P, 0, none⟩)] w fun e w' => e = .returned (.bool true) ∧ w' = w := by
  have c3 := F.cell (j := 3) (by omega)
  simp only [pobj] at c3
  have q := eql_self ⟨P, 0, none⟩ w
  clear F
  go_enter Try.func35, Try.ntmps35
  go_wp2_with fail
  go_ret
  exact ⟨rfl, rfl⟩
theorem made_nil (w : World) :
    Calls Try.prog 35 #[.pointer none] w fun e w' => e = .returned (.bool false) ∧ w' = w := by
  go_enter Try.func35, Try.ntmps35
  go_wp2_with fail
  go_ret
  exact ⟨rfl, rfl⟩
theorem made_empty (P : Nat) (w : World) (c3 : w.cell? ⟨P, 3, none⟩ = some (.pointer none)) :
    Calls Try.prog 35 #[.pointer (some ⟨P, 0, none⟩)] w fun e w' => e = .returned (.bool false) ∧ w' = w := by
  have q := eql_none ⟨P, 0, none⟩ w
  go_enter Try.func35, Try.ntmps35
  go_wp2_with fail
  go_ret
  exact ⟨rfl, rfl⟩
end Go.Proofs.Ytlfnglinalmpjaa
